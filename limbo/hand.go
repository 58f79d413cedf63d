package limbo

import "honeycomb/api"

// hand is a limbo that is moved on, and what was taken of it. Its moves panic of what goes wrong, so that they need not hand on an error: try alone tells one.
type hand struct {
	view
	taken []api.Entry
}

// handOf is a hand of a limbo that may be another one's yet: try makes it the hand's own.
func handOf(l api.Limbo) *hand { return &hand{view: view{l}} }

// try makes a move, and tells why it can't be made: ErrLimbo ahead of all else, if the limbo may not be. Then nothing is left in the hand.
func (h *hand) try(move func()) (no api.Errno) {
	defer func() {
		if why := recover(); why != nil {
			told, ok := why.(api.Errno)
			if !ok {
				panic(why) // of a move that is wrong, not of what it moves on
			}
			*h, no = hand{}, told
		}
	}()
	if e := Check(h.Limbo); e != api.OK {
		panic(e)
	}
	for n, row := range h.Rows {
		h.Rows[n] = copied(row)
	}
	move()
	return api.OK
}

func (h *hand) retire(e api.Entry) {
	if !isEntry(e) {
		panic(api.ErrArg)
	}
	if _, waits := h.when(e.Slab); waits {
		panic(api.ErrThere)
	}
	own := rowOf(h.Epoch)
	h.Rows[own] = append(h.Rows[own], e)
}

// advance asks what is ready ahead of asking whether there is a next epoch.
func (h *hand) advance() {
	if len(h.ready()) > 0 {
		panic(api.ErrReady)
	}
	if h.Epoch == api.MaxEpoch {
		panic(api.ErrFull)
	}
	h.Epoch++
}

func (h *hand) take() {
	row := h.ready()
	if len(row) == 0 {
		panic(api.ErrNone)
	}
	h.taken = append(h.taken, row[0])
	h.Rows[rowOf(h.Epoch+1)] = row[1:len(row):len(row)]
}

func (h *hand) run(steps ...api.Entry) {
	for _, e := range steps {
		move := h.retire
		if e.Slab < 0 {
			move = h.goOn
		}
		move(e)
	}
}

// goOn is of a step that says nothing but that the epoch goes on.
func (h *hand) goOn(api.Entry) {
	for len(h.ready()) > 0 {
		h.take()
	}
	h.advance()
}
