package group

import (
	"iter"
	"slices"

	"honeycomb/api"
	"honeycomb/ctrl"
	"honeycomb/lanes"
)

// view is a group that is looked at: none of its methods changes it.
type view struct{ api.Group }

// full are the lanes of full slots, told by their bytes alone: so they can be told of a word that may not be, too.
func (v view) full() api.Mask { return lanes.Below(v.Ctrl, api.CtMost+1) }

// slot is what the slot of a lane is, if it is full.
func (v view) slot(lane int) api.Slot {
	return api.Slot{Key: v.Keys[lane], Value: v.Values[lane], H2: lanes.Bytes(v.Ctrl)[lane]}
}

// has is whether the slot of a lane has that key.
func (v view) has(key uint64) func(lane int) bool {
	return func(lane int) bool { return v.Keys[lane] == key }
}

func (v view) mayBe() bool {
	return ctrl.Check(v.Ctrl) == api.OK && v.apart()
}

// apart is whether no two full slots have the same key.
func (v view) apart() bool {
	full := v.full()
telling:
	for lane := range in(full) {
		has := v.has(v.Keys[lane])
		for ahead := range in(full) {
			switch {
			case ahead == lane:
				continue telling // each one behind it is held against it in its own turn
			case has(ahead):
				return false
			}
		}
	}
	return true
}

// find tells what Find does, of a group that may be.
func (v view) find(key uint64, h2 byte) (int, int, api.Errno) {
	m, e := ctrl.Match(v.Ctrl, h2)
	if e != api.OK {
		return 0, 0, e
	}
	lane, looked, found := first(m, v.has(key))
	if !found {
		return 0, 0, api.ErrNone
	}
	return lane, looked, api.OK
}

// in tells the lanes of a mask, rising.
func in(m api.Mask) iter.Seq[int] { return slices.Values(lanes.All(m)) }

// first is the first of these lanes of which it holds, how many were asked up to it, and true; if it holds of none, nothing.
func first(m api.Mask, so func(lane int) bool) (int, int, bool) {
	asked := 0
	for lane := range in(m) {
		asked++
		if so(lane) {
			return lane, asked, true
		}
	}
	return 0, 0, false
}

// come is what the slots of these lanes come to, one behind the other: so is what those come to that were gone through by then, at first none.
func come[T any](m api.Mask, so T, with func(so T, lane int) T) T {
	for lane := range in(m) {
		so = with(so, lane)
	}
	return so
}
