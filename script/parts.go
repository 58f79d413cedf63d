package script

import (
	"iter"

	"honeycomb/api"
)

// most is how many words a call takes at most.
const most = 3

// more is what a byte has over its seven bits, if another one of its number follows.
const more = 128

// words are a call's, in the order in which they are taken.
func words(c api.Call) [most]uint64 { return [...]uint64{c.Key, c.A, c.B} }

// isCall is whether a call is of an Op, and has no more than what that takes.
func isCall(c api.Call) bool {
	many := Takes(c.Op)
	if many < 0 {
		return false
	}
	w := words(c)
	return all(w[many:], func(left uint64) bool { return left == 0 })
}

func mayBe(s api.Script) bool {
	if s.Goers < 1 || s.Goers > api.MaxGoers || s.Slabs < api.LeastSlab || s.Slabs > api.MaxSlabs {
		return false
	}
	if len(s.Lists) != s.Goers || len(s.Picks) > api.MaxPicks {
		return false
	}
	room := api.MaxCalls
	return all(s.Lists, func(l []api.Call) bool {
		room -= len(l)
		return room >= 0 && all(l, isCall)
	})
}

// numbers tells those of which a script's bytes are, in their order.
func numbers(s api.Script) iter.Seq[uint64] {
	return func(yield func(uint64) bool) {
		tell := func(l []uint64) bool { return all(l, yield) }
		head := []uint64{uint64(s.Goers), uint64(s.Slabs), s.Seed}
		if tell(head) && all(s.Lists, func(l []api.Call) bool { return tell(listed(l)) }) {
			tell(append([]uint64{uint64(len(s.Picks))}, s.Picks...))
		}
	}
}

// listed are the numbers of a list of calls.
func listed(l []api.Call) []uint64 {
	row := []uint64{uint64(len(l))}
	for _, c := range l {
		w := words(c)
		row = append(row, uint64(c.Op))
		row = append(row, w[:Takes(c.Op)]...)
	}
	return row
}

// all is whether each one is so; it asks no further than up to the first that is not.
func all[T any](l []T, so func(T) bool) bool {
	for _, one := range l {
		if !so(one) {
			return false
		}
	}
	return true
}
