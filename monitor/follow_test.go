package monitor_test

import (
	"slices"
	"testing"

	"honeycomb/api"
	"honeycomb/monitor"
)

// life is a monitor that lives on, and what was ever watched in it, from its beginning on.
type life struct {
	t    *testing.T
	m    api.Monitor
	log  []api.Watch // a WaTake with what was taken
	bad  []api.Watch
	safe bool // slabs are given back only where that is safe
}

// do watches something, unless that is an error.
func (l *life) do(w api.Watch) api.Errno {
	if w.Kind == api.WaGive && l.safe && !monitor.Safe(l.m, w.Entry) {
		return api.OK
	}
	l.foresee(w)
	next, taken, e := monitor.Do(l.m, w)
	if e != api.OK {
		return e
	}
	if w.Kind == api.WaTake {
		w.Entry = taken
	}
	if (w.Kind == api.WaRead || w.Kind == api.WaWrite) && !monitor.Good(l.m, w) {
		l.bad = append(l.bad, w)
	}
	l.m, l.log = next, append(l.log, w)
	l.hold()
	return e
}

// state is what a slab was made last, by its entry: 1, taken; 2, retired; 0, given back, or never taken.
func (l *life) state(e api.Entry) (is int) {
	for _, w := range l.log {
		if w.Entry == e {
			switch w.Kind {
			case api.WaTake:
				is = 1
			case api.WaRetire:
				is = 2
			case api.WaGive:
				is = 0
			}
		}
	}
	return is
}

// since is from where on in the log a goroutine looks at slabs, if it does.
func (l *life) since(goer int) (int, bool) {
	from, looks := 0, false
	for n, w := range l.log {
		if w.Goer == goer && (w.Kind == api.WaPin || w.Kind == api.WaUnpin) {
			from, looks = n, w.Kind == api.WaPin
		}
	}
	return from, looks
}

// got is what a goroutine has got since, each once, in order, by the log alone.
func (l *life) got(goer int) (row []api.Entry) {
	from, looks := l.since(goer)
	if !looks {
		return nil
	}
	for _, w := range l.log[from:] {
		if w.Goer == goer && (w.Kind == api.WaGet || w.Kind == api.WaTake) && !slices.Contains(row, w.Entry) {
			row = append(row, w.Entry)
		}
	}
	return row
}

// foresee tells of a touch by the log alone whether it is good.
func (l *life) foresee(w api.Watch) {
	if w.Kind != api.WaRead && w.Kind != api.WaWrite {
		return
	}
	is := l.state(w.Entry)
	want := slices.Contains(l.got(w.Goer), w.Entry) && (is == 1 || is == 2 && w.Kind == api.WaRead)
	if got := monitor.Good(l.m, w); got != want {
		l.t.Fatalf("behind %v: Good(%v): %t", l.log, w, got)
	}
}

// hold: P12.5 of what it came to.
func (l *life) hold() {
	if e := monitor.Check(l.m); e != api.OK {
		l.t.Fatalf("behind %v: %v may not be: %d", l.log, l.m, e)
	}
	for goer, looks := range l.m.Pinned {
		if !looks && len(l.m.Has[goer]) > 0 { // who is not Pinned has nothing
			l.t.Fatalf("behind %v: %d has %v", l.log, goer, l.m.Has[goer])
		}
	}
	if kept := l.bad[:min(len(l.bad), mostBad)]; !slices.Equal(l.m.Bad, kept) { // bad touches are never forgotten
		l.t.Fatalf("behind %v: Bad is %v, not %v", l.log, l.m.Bad, kept)
	}
}

// holdAll: what all have, by the log alone.
func (l *life) holdAll() {
	for goer := range l.m.Pinned {
		_, looks := l.since(goer)
		if row := l.got(goer); l.m.Pinned[goer] != looks || !slices.Equal(l.m.Has[goer], row) {
			l.t.Fatalf("behind %v: %d has %v, not %v", l.log, goer, l.m.Has[goer], row)
		}
	}
}

// next is something by chance, of which much can be done: of slabs that are not free, mostly.
func (c *chance) next(m api.Monitor) api.Watch {
	w := api.Watch{Kind: 1 + c.below(8), Goer: c.below(len(m.Pinned))}
	slab := c.below(len(m.Arena.Slabs))
	w.Entry = api.Entry{Slab: slab, Gen: m.Arena.Slabs[slab].Gen}
	if has := m.Has[w.Goer]; len(has) > 0 && c.below(2) == 0 {
		w.Entry = one(c, has)
	}
	if w.Entry.Gen > 0 && c.below(8) == 0 {
		w.Entry.Gen--
	}
	return w
}

// P12.5: long lives; what a goroutine has, and which touches are good, is told by all that was watched.
func TestLives(t *testing.T) {
	c := chance(17)
	met := map[api.Errno]int{}
	for goers := 1; goers <= mostGoers; goers++ {
		for _, slabs := range []int{2, 3, 6} {
			m, _ := monitor.New(goers, slabs)
			l := &life{t: t, m: m, safe: slabs == 3}
			for n := range 600 {
				w := c.next(l.m)
				if (w.Kind == api.WaRead || w.Kind == api.WaWrite) && len(l.bad) > mostBad+4 && c.below(2) == 0 {
					w.Kind = api.WaGet
				}
				met[l.do(w)]++
				if n%20 == 0 {
					l.holdAll()
				}
			}
			l.holdAll()
			if goers > 2 && len(l.bad) < mostBad {
				t.Errorf("%d goroutines, %d slabs: only %d touches were bad", goers, slabs, len(l.bad))
			}
		}
	}
	for _, e := range []api.Errno{api.OK, api.ErrFull, api.ErrNone, api.ErrThere} {
		if met[e] < 20 {
			t.Errorf("%d came only %d times", e, met[e])
		}
	}
}

// P12.5: slabs are given back only where that is safe: all that goroutines have got while it was live, or retired, they can read as long as they are Pinned.
func TestReadsOfSafeLives(t *testing.T) {
	c := chance(19)
	reads, gone := 0, 0
	for goers := 1; goers <= mostGoers; goers++ {
		for _, slabs := range []int{2, 3, 5, 20} {
			m, _ := monitor.New(goers, slabs)
			for range 1500 {
				w := c.next(m)
				switch {
				case w.Kind == api.WaGive && !monitor.Safe(m, w.Entry):
					continue
				case w.Kind == api.WaGet && bookOf(m).is[w.Entry] != "live" && bookOf(m).is[w.Entry] != "retired":
					continue
				}
				next, _, e := monitor.Do(m, w)
				if e != api.OK {
					continue
				}
				if m = next; w.Kind == api.WaGive {
					gone++
				}
				for goer, row := range m.Has {
					for _, e := range row {
						if reads++; !monitor.Good(m, api.Watch{Kind: api.WaRead, Goer: goer, Entry: e}) {
							t.Fatalf("behind %v: %v: %d can't read %v", w, m, goer, e)
						}
					}
				}
			}
		}
	}
	if reads < 10000 || gone < 500 {
		t.Errorf("%d reads, %d slabs given back", reads, gone)
	}
}

// P12.5: where it is not safe, what was got can't be read any more, and that is kept, whoever unpins, and whatever else comes.
func TestGivenBackTooEarly(t *testing.T) {
	m, _ := monitor.New(2, 2)
	m, _, e := monitor.Run(m, watches("0 pin,1 pin,0 take,1 get 0:0,0 unpin,0 pin,0 retire 0:0")...)
	if e != api.OK || monitor.Safe(m, entry("0:0")) || !monitor.Good(m, watch("1 read 0:0")) {
		t.Fatalf("ahead of that: %v, %d", m, e)
	}
	m, _, e = monitor.Run(m, watches("0 give 0:0,1 read 0:0,1 unpin,0 take,0 unpin,1 pin,1 take,1 read 1:0,1 give 1:0,0 pin")...)
	if e != api.OK || !alone(m, with(read("l1 f1", "+", "+ 1:0"), watch("1 read 0:0"))) {
		t.Errorf("in the end: %v, %d", m, e)
	}
	if e := monitor.Check(m); e != api.OK {
		t.Errorf("Check: %d", e)
	}
}
