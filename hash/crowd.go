package hash

import (
	"iter"
	"slices"

	"honeycomb/api"
)

// once tells each of these keys once. It goes over a sorted copy, in which those that are the same stand together.
func once(keys ...uint64) iter.Seq[uint64] {
	row := make([]uint64, len(keys))
	copy(row, keys)
	slices.Sort(row)
	return func(yield func(key uint64) bool) {
		for at, key := range row {
			if at > 0 && key == row[at-1] {
				continue
			}
			if !yield(key) {
				return
			}
		}
	}
}

// crowd is, of each prefix of so many bits, how many of these keys have it.
func crowd(seed uint64, bits int, keys iter.Seq[uint64]) map[uint64]int {
	many := map[uint64]int{}
	for key := range keys {
		many[made(seed, key).prefix(bits)]++
	}
	return many
}

// deepest is with how few bits no prefix is had by more than many of these keys. Prefixes of more bits are had by fewer keys, and those of all bits by one: so it is sought by halves.
func deepest(seed uint64, many int, keys iter.Seq[uint64]) int {
	crowds := func(has int) bool { return has > many }
	least, most := 0, api.MaxBits
seeking:
	for {
		bits := (least + most) / 2
		switch {
		case least == most:
			break seeking
		case some(crowd(seed, bits, keys), crowds):
			least = bits + 1
		default:
			most = bits
		}
	}
	return least
}

// some is whether it is so of one in a map, whichever is met first.
func some[K comparable, V any](m map[K]V, so func(V) bool) bool {
	for _, one := range m {
		if so(one) {
			return true
		}
	}
	return false
}
