package arena

import "honeycomb/api"

// draft is an arena of its own, that is changed, and what was taken of it. Its changes panic of what can't be done, so that they need not hand on an error: tried alone tells one.
type draft struct {
	view
	taken []api.Entry
}

// tried is a draft that has a copy of these slabs, behind a change; ErrArena, if they may not be; else what can't be done of that.
func tried(a api.Arena, change func(d *draft)) (d draft, e api.Errno) {
	defer func() {
		if why := recover(); why != nil {
			told, ok := why.(api.Errno)
			if !ok {
				panic(why) // of a change that is wrong, not of what can't be done
			}
			d, e = draft{}, told
		}
	}()
	if e := Check(a); e != api.OK {
		panic(e)
	}
	d.Slabs = make([]api.Slab, len(a.Slabs))
	copy(d.Slabs, a.Slabs)
	change(&d)
	return d, api.OK
}

// take seeks anew for each one: what is the least that is free hangs on what was taken ahead of it.
func (d *draft) take(many int) {
	if many < 0 {
		panic(api.ErrArg)
	}
taking:
	for range many {
		for e := range d.of(free) {
			d.Slabs[e.Slab].Tag = live
			d.taken = append(d.taken, e)
			continue taking
		}
		panic(api.ErrFull)
	}
}

// each makes a change by entry after entry, so that each of them sees what came of those ahead of it.
func (d *draft) each(change func(e api.Entry), l ...api.Entry) {
	for _, e := range l {
		change(e)
	}
}

func (d *draft) retire(e api.Entry) {
	if is, _ := d.tag(e); is != live {
		panic(api.ErrNone)
	}
	d.Slabs[e.Slab].Tag = retired
}

func (d *draft) give(e api.Entry) {
	if is, _ := d.tag(e); is == free {
		panic(api.ErrNone)
	}
	if e.Gen == api.MaxGen {
		panic(api.ErrFull)
	}
	d.Slabs[e.Slab] = api.Slab{Tag: free, Gen: e.Gen + 1}
}
