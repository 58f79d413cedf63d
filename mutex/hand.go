package mutex

import "honeycomb/api"

// hand is mutexes of its own, that are changed, and how many deeds were passed over. Its methods panic of what can't be done, so that they need not hand on an error: tried alone tells one.
type hand struct {
	mutexes
	passed int
}

// tried is a hand that has a copy of these mutexes, behind its work; ErrMutex, if they may not be; else what can't be done of that.
func tried(l []api.Mutex, work func(h *hand)) (h hand, e api.Errno) {
	if e := Check(l); e != api.OK {
		return hand{}, e
	}
	defer func() {
		if why := recover(); why != nil {
			told, ok := why.(api.Errno)
			if !ok {
				panic(why) // of a hand that is wrong, not of what it does
			}
			h, e = hand{}, told
		}
	}()
	h.mutexes = copied(l)
	work(&h)
	return h, api.OK
}

// copied are the same mutexes, each with a queue of its own.
func copied(l []api.Mutex) mutexes {
	m := make(mutexes, len(l))
	for which, one := range l {
		m[which] = api.Mutex{By: one.By, Queue: append([]int(nil), one.Queue...)}
	}
	return m
}

// at is a mutex that a goroutine does something with.
func (h *hand) at(which, goer int) *api.Mutex {
	if which < 0 || which >= len(h.mutexes) || noGoer(goer) {
		panic(api.ErrArg)
	}
	return &h.mutexes[which]
}

func (h *hand) ask(which, goer int) {
	m := h.at(which, goer)
	if _, waits := h.waits(goer); waits || h.isOf(which, goer) {
		panic(api.ErrOwn)
	}
	if m.By == 0 {
		m.By = goer + 1
		return
	}
	m.Queue = append(m.Queue, goer)
}

func (h *hand) leave(which, goer int) {
	m := h.at(which, goer)
	if !h.isOf(which, goer) {
		panic(api.ErrNone)
	}
	m.By = 0
	if many := len(m.Queue); many > 0 {
		m.By = m.Queue[0] + 1
		m.Queue = m.Queue[1:many:many]
	}
}

// play does deed by deed, but of those that wait when their deed comes.
func (h *hand) play(deeds ...api.Deed) {
	for _, d := range deeds {
		if _, waits := h.waits(d.Goer); waits {
			h.passed++
			continue
		}
		does(d)(h, d.Which, d.Goer)
	}
}

// does is what a hand does for a deed.
func does(d api.Deed) func(h *hand, which, goer int) {
	if d.Leave {
		return (*hand).leave
	}
	return (*hand).ask
}
