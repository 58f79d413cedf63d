package table

import (
	"honeycomb/api"
	"honeycomb/ctrl"
	"honeycomb/hash"
)

// draft is a table that is changed, and the slot that was changed last.
type draft struct {
	view
	slot int
}

// behind is the draft behind a change by each of these, one behind the other; the error of the first one that has one.
func behind(seed uint64, t api.Table, change func(d *draft, p api.Pair), l ...api.Pair) (draft, api.Errno) {
	return tried(seed, t, func(v view) draft {
		d := draft{view: v}
		for _, p := range l {
			change(&d, p)
		}
		return d
	})
}

// emptied is a table of which all slots are empty, whether it may be or not.
func emptied(count uint64, depth int, prefix uint64) api.Table {
	t := api.Table{Count: count, Depth: depth, Prefix: prefix, Can: api.MaxFill}
	for group := range t.Ctrl {
		t.Ctrl[group] = ctrl.New()
	}
	return t
}

func (d *draft) put(p api.Pair) {
	d.slot = d.place(p.Key)
	d.mark(ctrl.Fill(d.Ctrl[groupOf(d.slot)], laneOf(d.slot), hash.H2(d.hash(p.Key))))
	d.Keys[d.slot], d.Values[d.slot] = p.Key, p.Value
}

func (d *draft) set(p api.Pair) {
	d.slot = d.found(p.Key).slot
	d.Values[d.slot] = p.Value
}

// drop leaves the key and its value where they are.
func (d *draft) drop(p api.Pair) {
	d.slot = d.found(p.Key).slot
	d.mark(ctrl.Erase(d.Ctrl[groupOf(d.slot)], laneOf(d.slot)))
}

// mark lays the control word that a change of the draft's slot came to, and counts anew what slots say.
func (d *draft) mark(c uint64, e api.Errno) {
	if e != api.OK {
		panic(e)
	}
	d.Ctrl[groupOf(d.slot)] = c
	d.Live, d.Can = d.counts()
}

// lay puts what the table has, slot by slot.
func (v view) lay(put func(p api.Pair)) {
	for _, p := range v.pairs() {
		put(p)
	}
}

func (v view) anew() api.Table {
	d := draft{view: view{emptied(v.Count, v.Depth, v.Prefix), v.seed}}
	v.lay(d.put)
	return d.Table
}

func (v view) halves() [2]api.Table {
	if v.Depth == api.MaxDepth {
		panic(api.ErrDeep)
	}
	var halves [2]draft
	for n := range halves {
		halves[n].view = view{emptied(0, v.Depth+1, 2*v.Prefix+uint64(n)), v.seed}
	}
	v.lay(func(p api.Pair) {
		to := &halves[0]
		if !to.goes(p.Key) {
			to = &halves[1]
		}
		to.put(p)
	})
	return [2]api.Table{halves[0].Table, halves[1].Table}
}
