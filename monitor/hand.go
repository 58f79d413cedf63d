package monitor

import (
	"honeycomb/api"
	"honeycomb/arena"
)

// hand is a monitor of its own, that is changed by what is watched, and the entries that were taken. Its methods panic of what goes wrong, so that they need not hand on an error: tried alone tells one.
type hand struct {
	view
	taken []api.Entry
}

// tried is a hand that has a copy of this monitor, behind all that is watched; ErrMonitor, if it may not be; else what goes wrong first.
func tried(m api.Monitor, l ...api.Watch) (h hand, e api.Errno) {
	defer func() {
		if why := recover(); why != nil {
			told, ok := why.(api.Errno)
			if !ok {
				panic(why) // of a hand that is wrong, not of what is watched
			}
			h, e = hand{}, told
		}
	}()
	must(Check(m))
	h.Monitor = alone(m)
	for _, w := range l {
		h.watch(w)
	}
	return h, api.OK
}

// alone is the same monitor, no row of which is in any other one.
func alone(m api.Monitor) api.Monitor {
	m.Arena.Slabs, m.Pinned, m.Has, m.Bad = copied(m.Arena.Slabs), copied(m.Pinned), copied(m.Has), copied(m.Bad)
	for goer, row := range m.Has {
		m.Has[goer] = copied(row)
	}
	return m
}

func copied[T any](row []T) []T {
	own := make([]T, len(row))
	copy(own, row)
	return own
}

// must panics of an error, if there is one.
func must(e api.Errno) {
	if e != api.OK {
		panic(e)
	}
}

func (h *hand) watch(w api.Watch) {
	if w.Kind < api.WaPin || w.Kind > api.WaGive {
		panic(api.ErrWatch)
	}
	if !h.isOne(w.Goer) || asks(w.Kind) && !isEntry(w.Entry) {
		panic(api.ErrArg)
	}
	[...]func(api.Watch){
		api.WaPin:    h.pin,
		api.WaUnpin:  h.unpin,
		api.WaGet:    h.get,
		api.WaRead:   h.touch,
		api.WaWrite:  h.touch,
		api.WaTake:   h.take,
		api.WaRetire: h.retire,
		api.WaGive:   h.give,
	}[w.Kind](w)
}

// asks is whether what is watched, of a kind that there is, asks for an entry.
func asks(kind int) bool {
	return kind != api.WaPin && kind != api.WaUnpin && kind != api.WaTake
}

func (h *hand) pin(w api.Watch) {
	if h.Pinned[w.Goer] {
		panic(api.ErrThere)
	}
	h.Pinned[w.Goer] = true
}

func (h *hand) unpin(w api.Watch) {
	h.mustLook(w.Goer)
	h.Pinned[w.Goer], h.Has[w.Goer] = false, nil
}

func (h *hand) get(w api.Watch) {
	h.mustLook(w.Goer)
	h.add(w.Goer, w.Entry)
}

func (h *hand) touch(w api.Watch) {
	h.mustLook(w.Goer)
	if !h.good(w) && len(h.Bad) < api.MaxBad {
		h.Bad = append(h.Bad, w)
	}
}

func (h *hand) take(w api.Watch) {
	h.mustLook(w.Goer)
	a, l, e := arena.Take(h.Arena, 1)
	h.lay(a, e)
	h.add(w.Goer, l[0])
	h.taken = append(h.taken, l[0])
}

func (h *hand) retire(w api.Watch) { h.lay(arena.Retire(h.Arena, w.Entry)) }

func (h *hand) give(w api.Watch) { h.lay(arena.Give(h.Arena, w.Entry)) }

// mustLook panics, if a goroutine does not look at slabs.
func (h *hand) mustLook(goer int) {
	if !h.Pinned[goer] {
		panic(api.ErrNone)
	}
}

// add is asked of what is taken, too: one may have got an entry ahead of the time at which it is meant.
func (h *hand) add(goer int, e api.Entry) {
	if !h.has(goer, e) {
		h.Has[goer] = append(h.Has[goer], e)
	}
}

// lay makes the arena what it came to, unless that is an error.
func (h *hand) lay(a api.Arena, e api.Errno) {
	must(e)
	h.Arena = a
}
