package group

import (
	"honeycomb/api"
	"honeycomb/ctrl"
	"honeycomb/lanes"
)

// draft is a group that is changed, and the lane in which it is. A change that tells an error leaves the draft of no use; all others leave it a group that may be, if it was one.
type draft struct {
	view
	lane int
}

// behind is the group behind a change by each of these, one behind the other, and the lane of the last one; ErrGroup, if it may not be ahead of that; else the error of the first one that has one.
func (d *draft) behind(change func(s api.Slot) api.Errno, l ...api.Slot) (api.Group, int, api.Errno) {
	if !d.mayBe() {
		return api.Group{}, 0, api.ErrGroup
	}
	for _, s := range l {
		if e := change(s); e != api.OK {
			return api.Group{}, 0, e
		}
	}
	return d.Group, d.lane, api.OK
}

// put fills the least lane that is free with a slot.
func (d *draft) put(s api.Slot) api.Errno {
	if s.H2 > api.CtMost {
		return api.ErrArg
	}
	if _, _, there := first(d.full(), d.has(s.Key)); there {
		return api.ErrThere
	}
	lane, free := lanes.First(^d.full()) // of a group that may be, all that are not full are free
	if !free {
		return api.ErrFull
	}
	d.lane, d.Keys[lane], d.Values[lane] = lane, s.Key, s.Value
	return d.mark(ctrl.Fill(d.Ctrl, lane, s.H2))
}

// set gives the slot of the draft's lane another value, and looks at nothing else of what it is handed.
func (d *draft) set(s api.Slot) api.Errno {
	b, e := lanes.Get(d.Ctrl, d.lane)
	switch {
	case e != api.OK:
		return e
	case b > api.CtMost:
		return api.ErrNone
	}
	d.Values[d.lane] = s.Value
	return api.OK
}

// drop erases the slot of a key, and leaves that and its value where they are.
func (d *draft) drop(s api.Slot) api.Errno {
	lane, _, e := d.find(s.Key, s.H2)
	if e != api.OK {
		return e
	}
	d.lane = lane
	return d.mark(ctrl.Erase(d.Ctrl, lane))
}

// mark lays the control word that a change of it came to.
func (d *draft) mark(c uint64, e api.Errno) api.Errno {
	d.Ctrl = c
	return e
}
