package arena_test

import (
	"slices"
	"testing"

	"honeycomb/api"
	"honeycomb/arena"
)

// life is an arena that lives on, what was ever taken of it, and what was ever given back.
type life struct {
	t           *testing.T
	a           api.Arena
	taken, gone map[api.Entry]int
}

func born(t *testing.T, a api.Arena) *life {
	return &life{t: t, a: a, taken: map[api.Entry]int{}, gone: map[api.Entry]int{}}
}

func (l *life) take(many int) {
	want, _, no := rowsOf(l.a).takeBy(many)
	next, row, e := arena.Take(l.a, many)
	if e != no || !alone(next, want.arena()) {
		l.t.Fatalf("Take(%v, %d): %v, %d, not %v, %d", l.a, many, next, e, want, no)
	}
	for _, entry := range row {
		if l.taken[entry]++; l.taken[entry] > 1 { // P11.5: no two that were taken are the same
			l.t.Fatalf("Take(%v, %d): %v, again", l.a, many, entry)
		}
	}
	l.goOn(next, e)
}

func (l *life) change(c change, row ...api.Entry) {
	want, no := c.by(rowsOf(l.a), row)
	next, e := c.do(l.a, row...)
	if e != no || !alone(next, want.arena()) {
		l.t.Fatalf("%s(%v, %v): %v, %d, not %v, %d", c.name, l.a, row, next, e, want, no)
	}
	if e == api.OK && c.name == "Give" {
		for _, entry := range row {
			l.gone[entry]++
		}
	}
	l.goOn(next, e)
}

// goOn is to what comes, unless that is an error; P11.5 holds of it.
func (l *life) goOn(next api.Arena, e api.Errno) {
	if e != api.OK {
		return
	}
	slabs := len(l.a.Slabs)
	l.a = next
	if e := arena.Check(l.a); e != api.OK {
		l.t.Fatalf("%v may not be: %d", l.a, e)
	}
	if free, live, retired := arena.Counts(l.a); free+live+retired != slabs || len(l.a.Slabs) != slabs {
		l.t.Fatalf("%v: %d, %d, %d", l.a, free, live, retired)
	}
}

// hold: nothing that was given back is meant any more.
func (l *life) hold() {
	l.t.Helper()
	for entry := range l.gone {
		if tag, meant := arena.Tag(l.a, entry); tag != 0 || meant {
			l.t.Fatalf("%v: %v is %d, %t, though it was given back", l.a, entry, tag, meant)
		}
	}
}

// some are few of these entries, in an order that chance makes.
func (c *chance) some(l []api.Entry) []api.Entry {
	for n := range l {
		to := n + c.below(len(l)-n)
		l[n], l[to] = l[to], l[n]
	}
	return l[:min(len(l), c.below(4))]
}

// P11.2, P11.3, P11.5: long lives, of arenas of all sizes, some of them near the last generation.
func TestLives(t *testing.T) {
	c := chance(23)
	errs := map[api.Errno]int{}
	for _, slabs := range []int{2, 2, 3, 3, 4, 7, 20, 128} {
		a := alike(slabs, 0, 0)
		if c.below(2) == 0 {
			a.Slabs[0].Gen, a.Slabs[slabs-1].Gen = lastGen-2, lastGen
		}
		l := born(t, a)
		for n := range 1500 {
			r := rowsOf(l.a)
			live, retired := r.entriesBy('l'), r.entriesBy('r')
			switch c.below(8) {
			case 0, 1, 2:
				l.take(c.below(4) - c.below(2))
			case 3, 4:
				l.change(changes()[0], c.some(live)...)
			case 5:
				l.change(changes()[1], c.some(retired)...)
			case 6:
				l.change(changes()[1], c.some(append(retired, live...))...)
			case 7:
				l.change(changes()[c.below(2)], c.some(entriesNear(l.a))...)
			}
			_, _, e := arena.Take(l.a, 1)
			errs[e]++
			if n%20 == 0 {
				l.hold()
			}
		}
		l.hold()
		if len(l.gone) == 0 || len(l.taken) < len(l.gone) {
			t.Errorf("%d slabs: %d were taken, %d given back", slabs, len(l.taken), len(l.gone))
		}
	}
	if errs[api.OK] < 1000 || errs[api.ErrFull] < 100 {
		t.Errorf("behind the steps of lives one more could be taken, or not: %v", errs)
	}
}

// P11.5: what is taken, and given back, leaves the counts as they were; whether it was retired between, or not.
func TestTakenAndGivenBack(t *testing.T) {
	for _, a := range append(small(), wide()...) {
		free, live, retired := arena.Counts(a)
		for _, many := range []int{0, 1, free / 2, free} {
			for _, between := range []bool{false, true} {
				next, l, e := arena.Take(a, many)
				if e != api.OK {
					continue
				}
				if slices.ContainsFunc(l, func(e api.Entry) bool { return e.Gen == lastGen }) {
					continue // it is not given back any more
				}
				if f, v, r := arena.Counts(next); f != free-many || v != live+many || r != retired {
					t.Fatalf("%v, taken %d: %d, %d, %d", a, many, f, v, r)
				}
				if between {
					if next, e = arena.Retire(next, l...); e != api.OK {
						t.Fatalf("%v, taken %d: Retire: %d", a, many, e)
					}
				}
				next, e = arena.Give(next, l...)
				if e != api.OK {
					t.Fatalf("%v, taken %d: Give: %d", a, many, e)
				}
				if f, v, r := arena.Counts(next); f != free || v != live || r != retired {
					t.Fatalf("%v, taken %d, and given back: %d, %d, %d", a, many, f, v, r)
				}
			}
		}
	}
}

// P11.5: one slab, taken and given back until it has the last generation, which can be taken, but not given back any more.
func TestUpToTheLastGen(t *testing.T) {
	l := born(t, read("l0 f1099511627772"))
	for gen := uint64(lastGen - 3); gen < lastGen; gen++ {
		l.take(1)
		l.change(changes()[int(gen%2)], api.Entry{Slab: 1, Gen: gen})
		if gen%2 == 0 { // it was retired
			l.change(changes()[1], api.Entry{Slab: 1, Gen: gen})
		}
		l.hold()
	}
	last := api.Entry{Slab: 1, Gen: lastGen}
	l.take(1)
	if l.taken[last] != 1 || len(l.taken) != 4 || len(l.gone) != 3 {
		t.Fatalf("%v: taken %v, given back %v", l.a, l.taken, l.gone)
	}
	if a, e := arena.Give(l.a, last); a.Slabs != nil || e != api.ErrFull {
		t.Errorf("Give(%v): %v, %d", last, a, e)
	}
	l.change(changes()[0], last)
	if a, e := arena.Give(l.a, last); a.Slabs != nil || e != api.ErrFull {
		t.Errorf("Give(%v), retired: %v, %d", last, a, e)
	}
	if tag, meant := arena.Tag(l.a, last); tag != api.SlRetired || !meant {
		t.Errorf("Tag(%v): %d, %t", last, tag, meant)
	}
}
