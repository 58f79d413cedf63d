package epoch

import (
	"slices"

	"honeycomb/api"
	"honeycomb/arena"
	"honeycomb/limbo"
	"honeycomb/pins"
)

// hand is a reclaim of its own, that ops change, and the entries that these told. Its methods panic of what can't be done, ahead of changing anything, so that they need not hand on an error: caught alone tells one.
type hand struct {
	view
	kinds map[int]func(o api.EpochOp)
	told  []api.Entry
}

// caught does something, and tells why it can't be done.
func caught(what func()) (e api.Errno) {
	defer func() {
		if why := recover(); why != nil {
			told, ok := why.(api.Errno)
			if !ok {
				panic(why) // of a hand that is wrong, not of what it does
			}
			e = told
		}
	}()
	what()
	return api.OK
}

// got is what came without an error; else it panics of that.
func got[T any](what T, e api.Errno) T {
	if e != api.OK {
		panic(e)
	}
	return what
}

// tried is a hand that has a copy of this reclaim, behind what is done with it; ErrReclaim, if it may not be; else why that can't be done.
func tried(r api.Reclaim, what func(h *hand)) (hand, api.Errno) {
	if e := Check(r); e != api.OK {
		return hand{}, e
	}
	h := &hand{view: view{alone(r)}}
	h.kinds = map[int]func(api.EpochOp){
		api.EpPin:    h.pin,
		api.EpUnpin:  h.unpin,
		api.EpTake:   h.take,
		api.EpBack:   h.back,
		api.EpRetire: h.retire,
		api.EpFree:   h.free,
		api.EpGo:     h.goOn,
	}
	if e := caught(func() { what(h) }); e != api.OK {
		return hand{}, e
	}
	return *h, api.OK
}

// alone is the same reclaim, with slabs, slots and rows of its own.
func alone(r api.Reclaim) api.Reclaim {
	r.Arena.Slabs, r.Pins.Slots = slices.Clone(r.Arena.Slabs), slices.Clone(r.Pins.Slots)
	for n, row := range r.Limbo.Rows {
		r.Limbo.Rows[n] = slices.Clone(row)
	}
	return r
}

func (h *hand) do(o api.EpochOp) {
	does, known := h.kinds[o.Kind]
	if !known {
		panic(api.ErrEpOp)
	}
	does(o)
}

func (h *hand) pin(o api.EpochOp) {
	h.Pins = got(pins.Do(h.Pins, api.PinOp{Kind: api.PiPin, Goer: o.Goer, By: o.By}))
}

func (h *hand) unpin(o api.EpochOp) {
	h.Pins = got(pins.Do(h.Pins, api.PinOp{Kind: api.PiUnpin, Goer: o.Goer}))
}

func (h *hand) take(api.EpochOp) {
	a, l, e := arena.Take(h.Arena, 1)
	h.Arena = got(a, e)
	h.told = append(h.told, l...)
}

// back asks for more than arena does, which gives back what is retired, too: that would still wait.
func (h *hand) back(o api.EpochOp) {
	if is, _ := arena.Tag(h.Arena, o.Entry); is != api.SlLive {
		panic(api.ErrNone)
	}
	h.Arena = got(arena.Give(h.Arena, o.Entry))
}

// retire has no error of limbo's: of what is live nothing waits.
func (h *hand) retire(o api.EpochOp) {
	h.Arena, h.Limbo = got(arena.Retire(h.Arena, o.Entry)), got(limbo.Retire(h.Limbo, o.Entry))
}

// free changes both parts at one time, as the arena may have an error of what limbo took.
func (h *hand) free(api.EpochOp) {
	l, first, e := limbo.Take(h.Limbo)
	h.Limbo, h.Arena = got(l, e), got(arena.Give(h.Arena, first))
	h.told = append(h.told, first)
}

// goOn asks what is ready itself, as that goes ahead of what pins say, which limbo does not know.
func (h *hand) goOn(api.EpochOp) {
	if len(limbo.Ready(h.Limbo)) > 0 {
		panic(api.ErrReady)
	}
	h.Pins, h.Limbo = got(pins.Do(h.Pins, api.PinOp{Kind: api.PiGo})), got(limbo.Advance(h.Limbo))
}

// done does an op, and tells why that can't be done: then all is as it was.
func (h *hand) done(o api.EpochOp) api.Errno { return caught(func() { h.do(o) }) }

// run is how many ops were passed over.
func (h *hand) run(l ...api.EpochOp) (passed int) {
	for _, o := range l {
		switch e := h.done(o); e {
		case api.OK:
		case api.ErrEpOp:
			panic(e)
		default:
			passed++
		}
	}
	return passed
}

// try is whether the epoch went on.
func (h *hand) try() (went bool) {
giving:
	if h.done(api.EpochOp{Kind: api.EpFree}) == api.OK {
		goto giving
	}
	if !went && h.done(api.EpochOp{Kind: api.EpGo}) == api.OK {
		went = true
		goto giving
	}
	return went
}

// settle ends with a try by which the epoch did not go on, too: each further one would come to nothing.
func (h *hand) settle() {
	if _, some := pins.Oldest(h.Pins); some {
		panic(api.ErrHeld)
	}
	for h.waits() > 0 && h.try() {
	}
}
