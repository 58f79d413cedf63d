package cells

import "honeycomb/api"

// cell is one that is accessed. Its methods are named as those of atomic.Uint64, so that a shared cell is one as it stands.
type cell interface {
	Load() uint64
	CompareAndSwap(old, new uint64) bool
}

// plain is a cell that nobody else sees: a row of one word.
type plain []uint64

// alone is one of a row's cells, with no room behind it: nothing that is done with it can come to another one.
func alone(words []uint64, at int) plain { return words[at : at+1 : at+1] }

func (p plain) Load() uint64 { return p[0] }

func (p plain) CompareAndSwap(old, new uint64) bool {
	if p[0] != old {
		return false
	}
	p[0] = new
	return true
}

// hand makes an access, that may be, of its cell.
type hand struct {
	api.Access
	cell cell
}

func (h hand) do() api.Seen {
	return [...]func() api.Seen{
		api.CeLoad:  h.load,
		api.CeStore: h.store,
		api.CeSwap:  h.swap,
		api.CeAdd:   h.add,
	}[h.Kind]()
}

func (h hand) load() api.Seen {
	return api.Seen{Value: h.cell.Load(), Done: true}
}

func (h hand) store() api.Seen {
	return h.try(func(uint64) (uint64, bool) { return h.New, true })
}

func (h hand) swap() api.Seen {
	return h.try(func(held uint64) (uint64, bool) { return h.New, held == h.Old })
}

func (h hand) add() api.Seen {
	return h.try(func(held uint64) (uint64, bool) { return held + h.New, true })
}

// try makes of what the cell holds what next says, if it says so. Who comes between the look at the cell and its change makes the look worth nothing: so it is tried anew, and what is told held just ahead of what was done.
func (h hand) try(next func(held uint64) (uint64, bool)) (seen api.Seen) {
trying:
	for {
		held := h.cell.Load()
		switch is, wanted := next(held); {
		case !wanted:
			seen = api.Seen{Value: held}
			break trying
		case h.cell.CompareAndSwap(held, is):
			seen = api.Seen{Value: held, Done: true}
			break trying
		}
	}
	return seen
}

// wrong is why an access of so many cells can't be made; OK, if it can.
func wrong(many int, a api.Access) api.Errno {
	switch {
	case noCells(many):
		return api.ErrCells
	case a.Kind < api.CeLoad || a.Kind > api.CeAdd || a.Who < 0 || a.Who >= api.MaxWho:
		return api.ErrAccess
	case noCell(many, a.At):
		return api.ErrArg
	}
	return api.OK
}
