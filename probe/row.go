package probe

import (
	"iter"

	"honeycomb/api"
)

// outside is whether n is no number from 0 to below many.
func outside(many, n int) bool { return n < 0 || n >= many }

// left is what is left of a hash, which is the first group of its row.
func left(groups int, h1 uint64) int { return int(h1 % uint64(groups)) }

// behind is the group behind one that is the i-th of some row.
func behind(groups, at, i int) int { return (at + i + 1) % groups }

// row tells which one of a hash's row each group is, and the group, from the first on.
func row(groups int, h1 uint64) iter.Seq2[int, int] {
	return func(yield func(i, group int) bool) {
		group := left(groups, h1)
	telling:
		for i := range groups {
			switch {
			case !yield(i, group):
				break telling
			default:
				group = behind(groups, group, i)
			}
		}
	}
}

// kept is a hash's row; behind its last group stand zeros.
func kept(groups int, h1 uint64) [api.MaxGroups]int {
	var all [api.MaxGroups]int
	for i, group := range row(groups, h1) {
		all[i] = group
	}
	return all
}

// where is at which place the first one stands that is so, and that one; false, if none is so.
func where[T any](told iter.Seq2[int, T], so func(T) bool) (int, T, bool) {
	for at, one := range told {
		if so(one) {
			return at, one, true
		}
	}
	var none T
	return 0, none, false
}

// far is, of each group, which one of a row it is, the rows of all these hashes together. Hashes of which the same is left have the same row: so they are counted first, and each row is gone along once, however many they are.
func far(groups int, h1s []uint64) []int {
	var many [api.MaxGroups]int
	for _, h1 := range h1s {
		many[left(groups, h1)]++
	}
	sums := make([]int, groups)
	first := 0
adding:
	for i, group := range row(groups, uint64(first)) {
		sums[group] += i * many[first]
	}
	if first++; first < groups {
		goto adding
	}
	return sums
}
