package epoch

import (
	"iter"
	"slices"

	"honeycomb/api"
	"honeycomb/arena"
	"honeycomb/limbo"
	"honeycomb/pins"
)

// view is a reclaim that is looked at: none of its methods changes it. But for mayBe all are asked only of such as may be.
type view struct{ api.Reclaim }

func (v view) mayBe() bool {
	if arena.Check(v.Arena) != api.OK || pins.Check(v.Pins) != api.OK || limbo.Check(v.Limbo) != api.OK {
		return false
	}
	areRetired := just(arena.Entries(v.Arena, api.SlRetired))
	return v.Limbo.Epoch == v.Pins.Epoch && areRetired(v.waiting())
}

// just asks whether what is told is just these entries, in whatever order. As a limbo has no entry twice, it need not ask which of them were met.
func just(these []api.Entry) func(told iter.Seq[api.Entry]) bool {
	return func(told iter.Seq[api.Entry]) bool {
		many := 0
		for e := range told {
			if !slices.Contains(these, e) {
				return false
			}
			many++
		}
		return many == len(these)
	}
}

// waiting tells what waits, by the epochs in which it was retired, in order.
func (v view) waiting() iter.Seq[api.Entry] {
	return func(yield func(api.Entry) bool) {
		for _, e := range limbo.Held(v.Limbo) {
			if !yield(e) {
				return
			}
		}
	}
}

func (v view) waits() (many int) {
	for range v.waiting() {
		many++
	}
	return many
}
