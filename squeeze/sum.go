package squeeze

// sumSteps tells what half a byte does to a sum.
var sumSteps = [16]uint32{
	0x00000000, 0x1DB71064, 0x3B6E20C8, 0x26D930AC, 0x76DC4190, 0x6B6B51F4, 0x4DB26158, 0x5005713C,
	0xEDB88320, 0xF00F9344, 0xD6D6A3E8, 0xCB61B38C, 0x9B64C2B0, 0x86D3D2D4, 0xA00AE278, 0xBDBDF21C,
}

// Sum gives a sum of 32 bits.
func Sum(b []byte) uint32 { return SumMore(0, b) }

// SumMore goes on from a sum.
func SumMore(sum uint32, b []byte) uint32 {
	sum = ^sum
	for _, x := range b {
		sum ^= uint32(x)
		sum = sum>>4 ^ sumSteps[sum&15]
		sum = sum>>4 ^ sumSteps[sum&15]
	}
	return ^sum
}

// Hash gives a sum of 64 bits.
func Hash(b []byte) uint64 {
	h := uint64(0xCBF29CE484222325)
	for _, x := range b {
		h = (h ^ uint64(x)) * 0x100000001B3
	}
	return h
}
