package monitor

import (
	"iter"
	"slices"

	"honeycomb/api"
	"honeycomb/arena"
)

func mayHave(goers int) bool { return goers >= 1 && goers <= api.MaxGoers }

func isTouch(kind int) bool { return kind == api.WaRead || kind == api.WaWrite }

// isEntry does not ask whether the arena has such a slab: one may have an entry that is not meant.
func isEntry(e api.Entry) bool {
	return e.Slab >= 0 && e.Slab < api.MaxSlabs && e.Gen <= api.MaxGen
}

// view is a monitor that is looked at: none of its methods changes it. But for mayBe, and what that goes by, all are asked only of such as may be.
type view struct{ api.Monitor }

func (v view) mayBe() bool {
	return arena.Check(v.Arena) == api.OK &&
		mayHave(len(v.Pinned)) && len(v.Has) == len(v.Pinned) && len(v.Bad) <= api.MaxBad &&
		fit(v.wrongHas, v.Has...) && fit(v.wrongBad, v.Bad)
}

func (v view) isOne(goer int) bool { return goer >= 0 && goer < len(v.Pinned) }

// wrongHas tells, entry by entry, what is wrong with those that a goroutine has: it keeps which ones it met, and so serves for one row alone.
func (v view) wrongHas(goer int) func(api.Entry) bool {
	met := map[api.Entry]int{}
	return func(e api.Entry) bool {
		met[e]++
		return !v.Pinned[goer] || !isEntry(e) || met[e] > 1
	}
}

// wrongBad tells what is wrong with a bad touch.
func (v view) wrongBad(int) func(api.Watch) bool {
	return func(w api.Watch) bool { return !isTouch(w.Kind) || !v.isOne(w.Goer) || !isEntry(w.Entry) }
}

// fit is whether all rows are as they have to be; what is wrong in a row is asked for by its number, once.
func fit[T any](wrongIn func(row int) func(one T) bool, rows ...[]T) bool {
	fits := true
looking:
	for n, row := range rows {
		wrong := wrongIn(n)
		for _, one := range row {
			if wrong(one) {
				fits = false
				break looking
			}
		}
	}
	return fits
}

// has is whether a goroutine has an entry; who has one is Pinned.
func (v view) has(goer int, e api.Entry) bool { return slices.Contains(v.Has[goer], e) }

// good is whether a touch by one of the goroutines is good.
func (v view) good(w api.Watch) bool {
	if !v.has(w.Goer, w.Entry) {
		return false
	}
	tag, _ := arena.Tag(v.Arena, w.Entry) // what is not meant is told as free
	return tag == api.SlLive || tag == api.SlRetired && w.Kind == api.WaRead
}

// holders tells who has an entry, rising.
func (v view) holders(e api.Entry) iter.Seq[int] {
	return func(yield func(goer int) bool) {
		for goer := range v.Has {
			if v.has(goer, e) && !yield(goer) {
				return
			}
		}
	}
}

func (v view) safe(e api.Entry) bool {
	for range v.holders(e) {
		return false
	}
	tag, _ := arena.Tag(v.Arena, e)
	return tag != api.SlFree
}
