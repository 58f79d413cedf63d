package probe

import (
	"math"
	"math/big"
	"slices"

	"honeycomb/api"
)

// sizes are how many groups there may be.
var sizes = []int{1, 2, 4, 8, 16, 32, 64}

// noSizes are how many there may not be.
var noSizes = []int{
	0, 3, 5, 6, 7, 9, 12, 15, 17, 24, 31, 33, 48, 60, 62, 63, 65, 66, 96, 127, 128, 129, 256, 1 << 20, 1<<31 - 1, 1 << 31, 1 << 32, 1<<32 + 1, 1<<32 + 64, 1 << 62, math.MaxInt - 1, math.MaxInt,
	-1, -2, -3, -4, -8, -63, -64, -65, -128, -1 << 32, -1 << 62, math.MinInt + 1, math.MinInt + 64, math.MinInt,
}

// outsides are numbers of no group, and of no place of a row, of so many groups.
func outsides(groups int) []int {
	return []int{-1, -2, -groups, -groups - 1, -64, -1 << 32, math.MinInt, math.MinInt + 1, math.MinInt + groups, groups, groups + 1, 2 * groups, 64, 65, 128, 1 << 31, 1 << 32, 1<<32 + 1, math.MaxInt - 1, math.MaxInt}
}

// chance are numbers that come to the same with each run of a test.
type chance uint64

func (c *chance) word() uint64 {
	*c ^= *c << 13
	*c ^= *c >> 7
	*c ^= *c << 17
	return uint64(*c) * 0x2545f4914f6cdd1d
}

// hashes are such as leave each group, from both ends on: those at the end of all words go beyond it with what is added to them.
func hashes(groups int) []uint64 {
	l := []uint64{1<<32 - 1, 1 << 32, 1<<32 + 1, 1<<57 - 1, 1<<63 - 1, 1 << 63, 1<<63 + 1}
	for n := range 2 * uint64(groups) {
		l = append(l, n, math.MaxUint64-n)
	}
	c := chance(groups)
	for range 20 {
		l = append(l, c.word())
	}
	return l
}

// rowBy is a row as the document says it first: what is left of the hash and 1, 2, .. i together, reckoned in numbers without an end.
func rowBy(groups int, h1 uint64) (row []int) {
	for i := range groups {
		sum := new(big.Int).SetUint64(h1)
		for n := 1; n <= i; n++ {
			sum.Add(sum, big.NewInt(int64(n)))
		}
		row = append(row, int(sum.Mod(sum, big.NewInt(int64(groups))).Int64()))
	}
	return row
}

// firstBy is which one of a row is the first whose flag is true, flag by flag: the one that stands foremost.
func firstBy(groups int, h1 uint64, is []bool) (int, int, api.Errno) {
	row := rowBy(groups, h1)
	at, which := groups, 0
	for group, flag := range is {
		if place := slices.Index(row, group); flag && place < at {
			at, which = place, group
		}
	}
	if at == groups {
		return 0, 0, api.ErrNone
	}
	return at, which, api.OK
}

// farBy is, of each group, which one of a row it is, hash by hash.
func farBy(groups int, h1s []uint64) []int {
	sums := make([]int, groups)
	for _, h1 := range h1s {
		row := rowBy(groups, h1)
		for group := range groups {
			sums[group] += slices.Index(row, group)
		}
	}
	return sums
}

// flagsOf are flags of which just those of these groups are true.
func flagsOf(many int, groups ...int) []bool {
	is := make([]bool, many)
	for _, group := range groups {
		is[group] = true
	}
	return is
}
