package squeeze

import (
	"cmp"
	"slices"

	"mill/api"
)

// mostCount is the greatest count that Lengths takes: sums of as many as there can be do not wrap round.
const mostCount int64 = 1 << 40

// Lengths gives the best code's lengths for symbols that come so often.
func Lengths(counts []int, most int) ([]int, api.Errno) {
	if len(counts) > api.MaxAlphabet || most < 1 || most > api.MaxBits {
		return nil, api.ErrArg
	}
	for _, c := range counts {
		if c < 0 || int64(c) > mostCount {
			return nil, api.ErrArg
		}
	}
	symbols := byCount(counts)
	if len(symbols) > 1<<most {
		return nil, api.ErrArg
	}
	lengths := make([]int, len(counts))
	if len(symbols) == 1 {
		lengths[symbols[0]] = 1
		return lengths, api.OK
	}
	leaves := make([]int64, len(symbols))
	for i, s := range symbols {
		leaves[i] = int64(counts[s])
	}
	for _, chosen := range chosenLeaves(leaves, most) {
		for _, s := range symbols[:chosen] {
			lengths[s]++
		}
	}
	return lengths, api.OK
}

// byCount gives the symbols that come at all, the rarest first.
func byCount(counts []int) []int {
	var symbols []int
	for s, c := range counts {
		if c > 0 {
			symbols = append(symbols, s)
		}
	}
	slices.SortStableFunc(symbols, func(a, b int) int { return cmp.Compare(counts[a], counts[b]) })
	return symbols
}

// level is what can be bought at one length of codes: leaves and pairs of what the next greater length offers, the cheapest first.
type level struct {
	costs []int64
	leaf  []bool
}

// chosenLeaves tells for each length up to most how many leaves, the cheapest first, have a code of so many bits or more: of n leaves the 2n - 2 cheapest things of length 1 are taken, and with each pair its two halves of the next length (package-merge).
func chosenLeaves(leaves []int64, most int) []int {
	levels := make([]level, most)
	for i := most - 1; i >= 0; i-- {
		var pairs []int64
		if i < most-1 {
			pairs = inPairs(levels[i+1].costs)
		}
		levels[i] = mixed(leaves, pairs)
	}
	chosen := make([]int, most)
	take := max(0, 2*len(leaves)-2)
	for i, l := range levels {
		for _, leaf := range l.leaf[:take] {
			if leaf {
				chosen[i]++
			}
		}
		take = 2 * (take - chosen[i])
	}
	return chosen
}

// inPairs gives the costs of the first two together, of the next two, and so on.
func inPairs(costs []int64) []int64 {
	pairs := make([]int64, len(costs)/2)
	for i := range pairs {
		pairs[i] = costs[2*i] + costs[2*i+1]
	}
	return pairs
}

// mixed gives the level of leaves and pairs, both of which come with the cheapest first.
func mixed(leaves, pairs []int64) level {
	l := level{make([]int64, 0, len(leaves)+len(pairs)), make([]bool, 0, len(leaves)+len(pairs))}
	for len(leaves)+len(pairs) > 0 {
		leaf := len(pairs) == 0 || len(leaves) > 0 && leaves[0] <= pairs[0]
		next := &pairs
		if leaf {
			next = &leaves
		}
		l.costs = append(l.costs, (*next)[0])
		l.leaf = append(l.leaf, leaf)
		*next = (*next)[1:]
	}
	return l
}
