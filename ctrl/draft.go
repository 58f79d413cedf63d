package ctrl

import (
	"honeycomb/api"
	"honeycomb/lanes"
)

// draft is a word that is changed, and where, and to what, if the change is of one slot. Its changes panic of what can't be done, so that they need not hand on an error: tried alone tells one.
type draft struct {
	word
	lane int
	h2   byte
}

// tried is the word behind a change; ErrCtrl, if it may not be ahead of that; else what can't be done.
func (d *draft) tried(change func()) (c uint64, e api.Errno) {
	defer func() {
		if why := recover(); why != nil {
			told, ok := why.(api.Errno)
			if !ok {
				panic(why) // of a change that is wrong, not of what can't be done
			}
			e = told // and the word is 0, as it is answered in the end alone
		}
	}()
	if !d.mayBe() {
		panic(api.ErrCtrl)
	}
	change()
	return d.number(), api.OK
}

// is what the byte of the draft's lane says.
func (d *draft) is() kind {
	b, e := lanes.Get(d.number(), d.lane)
	if e != api.OK {
		panic(e)
	}
	return said(b)
}

// put lays a byte into the draft's lane.
func (d *draft) put(b byte) {
	c, e := lanes.Put(d.number(), b, d.lane)
	if e != api.OK {
		panic(e)
	}
	d.word = word(c)
}

func (d *draft) fill() {
	was := d.is() // which tells ahead of all else that there is no such lane
	if said(d.h2) != full {
		panic(api.ErrArg)
	}
	if was == full {
		panic(api.ErrThere)
	}
	d.put(d.h2)
}

func (d *draft) erase() {
	if d.is() != full {
		panic(api.ErrNone)
	}
	if d.stops() {
		d.put(api.CtEmpty)
		return
	}
	d.put(api.CtDeleted)
}

func (d *draft) ready() {
	d.word = word(lanes.Blend(New(), lanes.Fill(api.CtDeleted), d.are(full)))
}

// row is a draft whose free slots are filled, one behind the other, and which ones were.
type row struct {
	draft
	h2s   []byte
	which []int
}

func (r *row) fills() {
	left := r.h2s
laying:
	for lane, is := range r.slots() { // as they are ahead of all fills: none of these makes another slot free
		switch {
		case len(left) == 0:
			break laying
		case is == full:
			continue
		}
		r.lane, r.h2, left = lane, left[0], left[1:]
		r.fill()
		r.which = append(r.which, lane)
	}
	if len(left) > 0 {
		panic(api.ErrArg)
	}
}
