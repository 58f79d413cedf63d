package arena_test

import (
	"math"
	"slices"
	"testing"

	"honeycomb/api"
	"honeycomb/arena"
)

func holdTake(t *testing.T, a api.Arena, many int) {
	t.Helper()
	was := copied(a)
	want, wantL, no := rowsOf(a).takeBy(many)
	got, l, e := arena.Take(a, many)
	if !alone(got, want.arena()) || !slices.Equal(l, wantL) || e != no {
		t.Fatalf("Take(%v, %d): %v, %v, %d, not %v, %v, %d", a, many, got, l, e, want, wantL, no)
	}
	if !alone(a, was) {
		t.Fatalf("Take(%v, %d) made it %v", was, many, a)
	}
	if e != api.OK {
		return
	}
	if e := arena.Check(got); e != api.OK { // P11.5: what comes may be
		t.Fatalf("Take(%v, %d): %v, which may not be", a, many, got)
	}
	for _, one := range l {
		if tag, meant := arena.Tag(got, one); tag != api.SlLive || !meant {
			t.Fatalf("Take(%v, %d): %v is %d, %t", a, many, one, tag, meant)
		}
	}
}

// P11.2: none, as many as are free, one less and one too many, fewer than none, and numbers far beyond.
func TestTake(t *testing.T) {
	for _, a := range append(small(), wide()...) {
		free := len(rowsOf(a).entriesBy('f'))
		for _, many := range []int{0, 1, 2, free / 2, free - 1, free, free + 1, free + 2, len(a.Slabs), 128, 129, -1, -2, -free, 1 << 32, -1 << 32, math.MinInt, math.MinInt + 1, math.MaxInt - 1, math.MaxInt} {
			holdTake(t, a, many)
		}
	}
}

// P11.2: of the most slabs there are, each number of them.
func TestTakeOfEachNumber(t *testing.T) {
	c := chance(3)
	for many := -2; many <= 130; many++ {
		holdTake(t, alike(128, 0, 4), many)
		holdTake(t, c.arena(128), many)
		holdTake(t, c.arena(2+c.below(127)), many/3)
	}
}

// P11.2, R2: ErrArena goes ahead of all else.
func TestTakeOfNoArena(t *testing.T) {
	for _, a := range noArenas() {
		for _, many := range []int{-1, 0, 1, 2, len(a.Slabs), len(a.Slabs) + 1, math.MinInt, math.MaxInt} {
			if got, l, e := arena.Take(a, many); got.Slabs != nil || l != nil || e != api.ErrArena {
				t.Fatalf("Take(%v, %d): %v, %v, %d", a, many, got, l, e)
			}
		}
	}
}

// P11.2: in numbers; ErrArg, if nothing is free, too.
func TestTakeInNumbers(t *testing.T) {
	for _, c := range []struct {
		slabs string
		many  int
		want  string
		l     string
		e     api.Errno
	}{
		{"f7 f8", 0, "f7 f8", "", api.OK},
		{"f7 f8", 1, "l7 f8", "0:7", api.OK},
		{"f7 f8", 2, "l7 l8", "0:7 1:8", api.OK},
		{"f7 f8", 3, "", "", api.ErrFull},
		{"f7 f8", -1, "", "", api.ErrArg},
		{"l7 r8", 0, "l7 r8", "", api.OK},
		{"l7 r8", 1, "", "", api.ErrFull},
		{"l7 r8", -1, "", "", api.ErrArg},
		{"l7 f^", 1, "l7 l^", "1:^", api.OK},
		{"r1 f^ l3 f0 f5", 2, "r1 l^ l3 l0 f5", "1:^ 3:0", api.OK},
		{"r1 f^ l3 f0 f5", 3, "r1 l^ l3 l0 l5", "1:^ 3:0 4:5", api.OK},
		{"r1 f^ l3 f0 f5", 4, "", "", api.ErrFull},
	} {
		got, l, e := arena.Take(read(c.slabs), c.many)
		if !alone(got, read(c.want)) || !slices.Equal(l, list(c.l)) || e != c.e {
			t.Errorf("Take(%s, %d): %v, %v, %d, not %s, %s, %d", c.slabs, c.many, got, l, e, c.want, c.l, c.e)
		}
	}
}

// P11.2, P11.5: so many are the same as one behind the other.
func TestTakeOneByOne(t *testing.T) {
	for _, a := range wide() {
		free, _, _ := arena.Counts(a)
		one, row := copied(a), []api.Entry(nil)
		for range free {
			next, l, e := arena.Take(one, 1)
			if len(l) != 1 || e != api.OK {
				t.Fatalf("Take(%v, 1): %v, %d", one, l, e)
			}
			one, row = next, append(row, l...)
		}
		all, l, e := arena.Take(a, free)
		if !alone(all, one) || !slices.Equal(l, row) || e != api.OK {
			t.Fatalf("Take(%v, %d): %v, %v, %d, not %v, %v", a, free, all, l, e, one, row)
		}
		if _, _, e := arena.Take(one, 1); e != api.ErrFull {
			t.Fatalf("Take(%v, 1): %d, not ErrFull", one, e)
		}
	}
}

// P11.2, R3: what is handed in stays as it is, the room behind its end, too, and is not kept; what is told is new.
func TestTakeSharesNoMemory(t *testing.T) {
	room := read("f3 l4 f5 f6 l7").Slabs
	was := slices.Clone(room)
	for many := range 3 {
		got, l, e := arena.Take(api.Arena{Slabs: room[:3]}, many)
		if e != api.OK {
			t.Fatalf("Take(%d): %d", many, e)
		}
		again, row, _ := arena.Take(api.Arena{Slabs: room[:3]}, many)
		got.Slabs = append(got.Slabs, api.Slab{Tag: 2, Gen: 99})
		clear(got.Slabs)
		l = append(l, api.Entry{Slab: 9})
		clear(l)
		if !slices.Equal(room, was) {
			t.Fatalf("Take(%d): the slabs are %v, not %v", many, room, was)
		}
		want, wantL, _ := rowsOf(api.Arena{Slabs: was[:3]}).takeBy(many)
		if !alone(again, want.arena()) || !slices.Equal(row, wantL) {
			t.Errorf("Take(%d), again: %v, %v, not %v, %v", many, again, row, want, wantL)
		}
		kept, _, _ := arena.Take(api.Arena{Slabs: room[:3]}, many)
		clear(room)
		if !alone(kept, want.arena()) {
			t.Errorf("Take(%d) kept what was handed in: %v, not %v", many, kept, want)
		}
		copy(room, was)
	}
}
