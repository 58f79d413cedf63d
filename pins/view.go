package pins

import (
	"iter"

	"honeycomb/api"
)

func mayHave(goers int) bool { return goers >= 1 && goers <= api.MaxGoers }

// all is whether something is so of each one of a row.
func all[T any](row []T, so func(one T) bool) bool {
	for _, one := range row {
		if !so(one) {
			return false
		}
	}
	return true
}

// view is pins that are looked at: none of its methods changes them. But for mayBe all are asked only of such as may be.
type view struct{ api.Pins }

func (v view) mayBe() bool {
	// The Epoch is asked first: of such as may be one more is a number yet.
	return v.Epoch <= api.MaxEpoch && mayHave(len(v.Slots)) &&
		all(v.Slots, func(slot uint64) bool { return slot <= v.Epoch+1 })
}

func (v view) isOne(goer int) bool { return goer >= 0 && goer < len(v.Slots) }

func (v view) pins(goer int) bool { return v.Slots[goer] != 0 }

// pinning tells who pins an epoch, rising, and which one.
func (v view) pinning() iter.Seq2[int, uint64] {
	return func(yield func(goer int, epoch uint64) bool) {
	telling:
		for goer, slot := range v.Slots {
			switch {
			case slot == 0:
				continue
			case !yield(goer, slot-1):
				break telling
			}
		}
	}
}

// flags say of each goroutine that there may be whether something is so.
type flags [api.MaxGoers]bool

// list are the goroutines of which it is so, rising.
func (f flags) list() (l []int) {
	for goer, so := range f {
		if so {
			l = append(l, goer)
		}
	}
	return l
}

// backs say who holds the epoch back.
func (v view) backs() (f flags) {
	for goer, epoch := range v.pinning() {
		f[goer] = epoch != v.Epoch
	}
	return f
}

func (v view) oldest() (oldest uint64, found bool) {
	for _, epoch := range v.pinning() {
		if !found || epoch < oldest {
			oldest, found = epoch, true
		}
	}
	return oldest, found
}

// safe holds what is left of the Epoch against 2, as 2 more than an epoch that is asked for may be no number.
func (v view) safe(epoch uint64) bool { return epoch <= v.Epoch && v.Epoch-epoch >= 2 }
