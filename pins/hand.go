package pins

import "honeycomb/api"

// hand is pins of its own, that ops change. Its methods panic of what can't be done, ahead of changing anything, so that they need not hand on an error: try alone tells one.
type hand struct{ view }

// handOf is a hand that has a copy of these pins; ErrPins, if they may not be.
func handOf(p api.Pins) (hand, api.Errno) {
	if e := Check(p); e != api.OK {
		return hand{}, e
	}
	own := make([]uint64, len(p.Slots))
	copy(own, p.Slots)
	p.Slots = own
	return hand{view{p}}, api.OK
}

// try does an op, and tells why it can't be done.
func (h *hand) try(o api.PinOp) (e api.Errno) {
	defer func() {
		if why := recover(); why != nil {
			told, ok := why.(api.Errno)
			if !ok {
				panic(why) // of a hand that is wrong, not of what it does
			}
			e = told
		}
	}()
	h.do(o)
	return api.OK
}

func (h *hand) do(o api.PinOp) {
	if o.Kind < api.PiPin || o.Kind > api.PiGo || o.Kind != api.PiGo && !h.isOne(o.Goer) {
		panic(api.ErrArg)
	}
	[...]func(*hand, api.PinOp){
		api.PiPin:   (*hand).pin,
		api.PiUnpin: (*hand).unpin,
		api.PiGo:    (*hand).goOn,
	}[o.Kind](h, o)
}

func (h *hand) pin(o api.PinOp) {
	if h.pins(o.Goer) {
		panic(api.ErrThere)
	}
	if o.By > h.Epoch {
		panic(api.ErrNone)
	}
	h.Slots[o.Goer] = h.Epoch - o.By + 1
}

func (h *hand) unpin(o api.PinOp) {
	if !h.pins(o.Goer) {
		panic(api.ErrNone)
	}
	h.Slots[o.Goer] = 0
}

// goOn asks who holds back ahead of asking whether there is a next epoch.
func (h *hand) goOn(api.PinOp) {
	if h.backs() != (flags{}) {
		panic(api.ErrHeld)
	}
	if h.Epoch == api.MaxEpoch {
		panic(api.ErrFull)
	}
	h.Epoch++
}
