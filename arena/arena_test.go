package arena_test

import (
	"math"
	"slices"
	"testing"

	"honeycomb/api"
	"honeycomb/arena"
)

// P11.1: each number of slabs that there may be, and the edges beyond.
func TestNew(t *testing.T) {
	for slabs := 2; slabs <= 128; slabs++ {
		a, e := arena.New(slabs)
		if e != api.OK || !alone(a, alike(slabs, 0, 0)) {
			t.Fatalf("New(%d): %v, %d", slabs, a, e)
		}
		if e := arena.Check(a); e != api.OK {
			t.Errorf("Check(New(%d)): %d", slabs, e)
		}
		if free, live, retired := arena.Counts(a); free != slabs || live != 0 || retired != 0 {
			t.Errorf("Counts(New(%d)): %d, %d, %d", slabs, free, live, retired)
		}
	}
	for _, slabs := range []int{1, 0, -1, -2, -128, 129, 130, 256, 1 << 32, 1<<32 + 2, -1 << 32, math.MinInt, math.MinInt + 2, math.MaxInt} {
		if a, e := arena.New(slabs); a.Slabs != nil || e != api.ErrArg {
			t.Errorf("New(%d): %v, %d, not ErrArg", slabs, a, e)
		}
	}
}

// P11.1, R3: what New tells is new each time.
func TestNewIsNew(t *testing.T) {
	a, _ := arena.New(3)
	a.Slabs[1] = api.Slab{Tag: 2, Gen: 9}
	if b, e := arena.New(3); e != api.OK || !alone(b, alike(3, 0, 0)) {
		t.Errorf("New, again: %v, %d", b, e)
	}
}

// P11.1: ErrArena, or OK.
func TestCheck(t *testing.T) {
	for _, a := range append(small(), wide()...) {
		if e := arena.Check(a); e != api.OK {
			t.Fatalf("Check(%v): %d, not OK", a, e)
		}
	}
	for _, a := range noArenas() {
		if e := arena.Check(a); e != api.ErrArena {
			t.Fatalf("Check(%v): %d, not ErrArena", a, e)
		}
	}
}

// P11.1: each slab of the most that there are, in its turn: of each tag, of those beside them, and of generations at the edges.
func TestCheckOfEachSlab(t *testing.T) {
	for slab := range 128 {
		for tag := -2; tag <= 5; tag++ {
			for _, gen := range []uint64{0, 1, lastGen - 1, lastGen, lastGen + 1, math.MaxUint64} {
				a := alike(128, slab%3, 1)
				a.Slabs[slab] = api.Slab{Tag: tag, Gen: gen}
				want := api.ErrArena
				if tag >= 0 && tag <= 2 && gen <= lastGen {
					want = api.OK
				}
				if e := arena.Check(a); e != want {
					t.Fatalf("Check, slab %d being %v: %d, not %d", slab, a.Slabs[slab], e, want)
				}
			}
		}
	}
}

// P11.1: how many slabs there may be, whatever they are.
func TestCheckOfEachNumber(t *testing.T) {
	for slabs := range 300 {
		want := api.ErrArena
		if slabs >= 2 && slabs <= 128 {
			want = api.OK
		}
		if e := arena.Check(alike(slabs, slabs%3, uint64(slabs))); e != want {
			t.Errorf("Check of %d slabs: %d, not %d", slabs, e, want)
		}
	}
}

// P11.1: all pairs of few arenas; those that may not be are asked as they stand, too.
func TestSame(t *testing.T) {
	var l []api.Arena
	for n, a := range small() {
		if n%7 == 0 {
			l = append(l, a)
		}
	}
	for n, a := range append(noArenas(), wide()...) {
		if n%5 == 0 || n < 8 {
			l = append(l, a)
		}
	}
	many := 0
	for _, a := range l {
		for _, b := range l {
			want := len(a.Slabs) == len(b.Slabs)
			for slab := 0; want && slab < len(a.Slabs); slab++ {
				want = a.Slabs[slab].Tag == b.Slabs[slab].Tag && a.Slabs[slab].Gen == b.Slabs[slab].Gen
			}
			if got := arena.Same(a, copied(b)); got != want {
				t.Fatalf("Same(%v, %v): %t", a, b, got)
			}
			if want {
				many++
			}
		}
	}
	if many < len(l) || many > 2*len(l) {
		t.Errorf("%d arenas, %d pairs that are the same", len(l), many)
	}
}

// P11.1: whatever part of a slab is another one, they are not the same; nor if one has one more.
func TestSameOfEachPart(t *testing.T) {
	for _, a := range append(append(wide(), noArenas()[:10]...), noArenas()[20], noArenas()[60]) {
		if !arena.Same(a, copied(a)) {
			t.Fatalf("%v is not the same as itself", a)
		}
		for slab := 0; slab < len(a.Slabs); slab += 1 + len(a.Slabs)/100 {
			tag, gen := copied(a), copied(a)
			tag.Slabs[slab].Tag = (tag.Slabs[slab].Tag + 1) % 3
			gen.Slabs[slab].Gen ^= 1 << (slab % 64)
			for _, b := range []api.Arena{tag, gen} {
				if arena.Same(a, b) || arena.Same(b, a) {
					t.Fatalf("slab %d: Same(%v, %v)", slab, a, b)
				}
			}
		}
		for _, s := range []api.Slab{{}, {Tag: 1}, {Tag: 2, Gen: 4}} {
			more := api.Arena{Slabs: append(slices.Clone(a.Slabs), s)}
			if arena.Same(a, more) || arena.Same(more, a) {
				t.Fatalf("Same(%v, %v)", a, more)
			}
		}
	}
}

// P11.1, R3: nil and empty lists are one, whatever room is behind them.
func TestSameOfNilAndEmpty(t *testing.T) {
	l := []api.Arena{{}, {Slabs: []api.Slab{}}, {Slabs: make([]api.Slab, 0, 5)}}
	for _, a := range l {
		for _, b := range l {
			if !arena.Same(a, b) {
				t.Errorf("%v and %v are not the same", a, b)
			}
		}
	}
	room := []api.Slab{{Tag: 1}, {Tag: 2}, {Tag: 1, Gen: 7}}
	if !arena.Same(api.Arena{Slabs: room[:2]}, api.Arena{Slabs: []api.Slab{{Tag: 1}, {Tag: 2}}}) {
		t.Error("the room behind the end is looked at")
	}
}

// P11.1 to P11.4: the chapter's examples.
func TestExamples(t *testing.T) {
	if a, e := arena.New(1); a.Slabs != nil || e != api.ErrArg {
		t.Errorf("New(1): %v, %d", a, e)
	}
	a, e := arena.New(3)
	if e != api.OK {
		t.Fatalf("New(3): %d", e)
	}
	a, l, e := arena.Take(a, 2)
	if e != api.OK || !slices.Equal(l, []api.Entry{{Slab: 0, Gen: 0}, {Slab: 1, Gen: 0}}) {
		t.Fatalf("Take(2): %v, %d", l, e)
	}
	a, e = arena.Retire(a, api.Entry{Slab: 0, Gen: 0})
	if e != api.OK {
		t.Fatalf("Retire(0 of 0): %d", e)
	}
	if free, live, retired := arena.Counts(a); free != 1 || live != 1 || retired != 1 {
		t.Errorf("Counts: %d, %d, %d", free, live, retired)
	}
	a, e = arena.Give(a, api.Entry{Slab: 0, Gen: 0})
	if e != api.OK {
		t.Fatalf("Give(0 of 0): %d", e)
	}
	a, l, e = arena.Take(a, 1)
	if e != api.OK || !slices.Equal(l, []api.Entry{{Slab: 0, Gen: 1}}) {
		t.Fatalf("Take(1): %v, %d", l, e)
	}
	if no, e := arena.Retire(a, api.Entry{Slab: 0, Gen: 0}); no.Slabs != nil || e != api.ErrNone {
		t.Errorf("Retire(0 of 0), by then: %v, %d", no, e)
	}
	if tag, meant := arena.Tag(a, api.Entry{Slab: 0, Gen: 0}); tag != 0 || meant {
		t.Errorf("Tag(0 of 0): %d, %t", tag, meant)
	}
	if tag, meant := arena.Tag(a, api.Entry{Slab: 0, Gen: 1}); tag != 1 || !meant {
		t.Errorf("Tag(0 of 1): %d, %t", tag, meant)
	}
	if no, l, e := arena.Take(a, 3); no.Slabs != nil || l != nil || e != api.ErrFull {
		t.Errorf("Take(3): %v, %v, %d", no, l, e)
	}
}
