package keyspec

import "mill/api"

// Size reads a size.
func Size(s string) (int, api.Errno) {
	n, size := digits(s, api.MaxBytes)
	unit := 1 << 10
	switch s[size:] {
	case "", "K":
	case "b":
		unit = 1
	case "M":
		unit = 1 << 20
	case "G":
		unit = 1 << 30
	default:
		return 0, api.ErrCount
	}
	// A text without a digit comes here, too.
	if n == 0 {
		return 0, api.ErrCount
	}
	return min(n*unit, api.MaxBytes), api.OK
}

// from1 gives what reads a number of 1 or more that saturates at a bound.
func from1(bound int) func(s string) (int, api.Errno) {
	return func(s string) (int, api.Errno) {
		n, size := digits(s, bound)
		if size < len(s) || n == 0 {
			return 0, api.ErrCount
		}
		return n, api.OK
	}
}

func readFan(s string) (int, api.Errno) {
	// One above the bound tells all that is above it.
	n, e := from1(api.MaxFan + 1)(s)
	if e != api.OK || !within(n, api.MinFan, api.MaxFan) {
		return 0, api.ErrCount
	}
	return n, api.OK
}

// digits reads the digits at a text's head: what they say, saturating at a bound, and how many they are.
func digits(s string, bound int) (int, int) {
	n, size := 0, 0
	for size < len(s) && s[size] >= '0' && s[size] <= '9' {
		n = min(10*n+int(s[size]-'0'), bound)
		size++
	}
	return n, size
}
