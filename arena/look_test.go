package arena_test

import (
	"math"
	"slices"
	"strings"
	"testing"

	"honeycomb/api"
	"honeycomb/arena"
)

// noTags are numbers that no slab is told by.
var noTags = []int{-1, -2, -3, 3, 4, 255, 256, 1 << 32, 1<<32 + 1, -1 << 32, math.MinInt, math.MaxInt}

// P11.4: each entry that is meant, those beside it, and those that there are no slabs for.
func TestTag(t *testing.T) {
	for _, a := range append(small(), wide()...) {
		r := rowsOf(a)
		for _, e := range entriesNear(a) {
			letter := r.tagBy(e)
			want := 0
			if letter != "" {
				want = strings.Index(letters, letter)
			}
			if tag, meant := arena.Tag(a, e); tag != want || meant != (letter != "") {
				t.Fatalf("Tag(%v, %v): %d, %t, not %q", a, e, tag, meant, letter)
			}
		}
	}
}

// P11.4: in numbers; an entry of a slab that is free is meant, too.
func TestTagInNumbers(t *testing.T) {
	a := read("f0 l7 r^ f^")
	for _, c := range []struct {
		slab  int
		gen   uint64
		tag   int
		meant bool
	}{
		{0, 0, 0, true}, {1, 7, 1, true}, {2, lastGen, 2, true}, {3, lastGen, 0, true},
		{0, 1, 0, false}, {0, math.MaxUint64, 0, false}, {0, 1 << 40, 0, false},
		{1, 6, 0, false}, {1, 8, 0, false}, {1, 0, 0, false}, {1, 7 + 1<<40, 0, false},
		{2, lastGen - 1, 0, false}, {2, lastGen + 1, 0, false}, {2, 0, 0, false}, {3, 0, 0, false},
		{-1, 0, 0, false}, {-1, lastGen, 0, false}, {4, 0, 0, false}, {4, lastGen, 0, false}, {5, 7, 0, false},
		{1 << 32, 0, 0, false}, {math.MinInt, 0, 0, false}, {math.MaxInt, 0, 0, false},
	} {
		if tag, meant := arena.Tag(a, api.Entry{Slab: c.slab, Gen: c.gen}); tag != c.tag || meant != c.meant {
			t.Errorf("Tag(%d of %d): %d, %t, not %d, %t", c.slab, c.gen, tag, meant, c.tag, c.meant)
		}
	}
}

// P11.4, P11.5: how many slabs are of each tag; together as many as there are.
func TestCounts(t *testing.T) {
	for _, a := range append(small(), wide()...) {
		is := rowsOf(a).is
		want := [3]int{strings.Count(is, "f"), strings.Count(is, "l"), strings.Count(is, "r")}
		free, live, retired := arena.Counts(a)
		if got := [3]int{free, live, retired}; got != want || free+live+retired != len(a.Slabs) {
			t.Fatalf("Counts(%v): %v, not %v", a, got, want)
		}
	}
}

// P11.4: in numbers.
func TestCountsInNumbers(t *testing.T) {
	for slabs, want := range map[string][3]int{
		"f0 f0":                {2, 0, 0},
		"l0 l0":                {0, 2, 0},
		"r0 r0":                {0, 0, 2},
		"f1 l2":                {1, 1, 0},
		"r^ l^ f^":             {1, 1, 1},
		"l0 f0 l0 r9 l^ r1 l7": {1, 4, 2},
		"f0":                   {},
		"f0 l1099511627776":    {},
		"":                     {},
	} {
		if free, live, retired := arena.Counts(read(slabs)); [3]int{free, live, retired} != want {
			t.Errorf("Counts(%s): %d, %d, %d, not %v", slabs, free, live, retired, want)
		}
	}
}

// P11.4: of each tag, and of such as are none.
func TestEntries(t *testing.T) {
	for _, a := range append(small(), wide()...) {
		r := rowsOf(a)
		for tag := range 3 {
			if got, want := arena.Entries(a, tag), r.entriesBy(letters[tag]); !slices.Equal(got, want) {
				t.Fatalf("Entries(%v, %d): %v, not %v", a, tag, got, want)
			}
		}
		for _, tag := range noTags {
			if got := arena.Entries(a, tag); len(got) != 0 {
				t.Fatalf("Entries(%v, %d): %v", a, tag, got)
			}
		}
	}
}

// P11.4: in numbers.
func TestEntriesInNumbers(t *testing.T) {
	a := read("l0 f0 l^ r9 l7 r1")
	for tag, want := range map[int]string{-1: "", 0: "1:0", 1: "0:0 2:^ 4:7", 2: "3:9 5:1", 3: ""} {
		if got := arena.Entries(a, tag); !slices.Equal(got, list(want)) {
			t.Errorf("Entries(%d): %v, not %s", tag, got, want)
		}
	}
}

// P11.4: of what may not be nothing is told, whatever is asked.
func TestLooksOfNoArena(t *testing.T) {
	for _, a := range noArenas() {
		if free, live, retired := arena.Counts(a); free != 0 || live != 0 || retired != 0 {
			t.Fatalf("Counts(%v): %d, %d, %d", a, free, live, retired)
		}
		for slab := 0; slab < len(a.Slabs); slab += 1 + len(a.Slabs)/130 {
			for _, gen := range []uint64{a.Slabs[slab].Gen, 0, 5, lastGen} {
				if tag, meant := arena.Tag(a, api.Entry{Slab: slab, Gen: gen}); tag != 0 || meant {
					t.Fatalf("Tag(%v, %d of %d): %d, %t", a, slab, gen, tag, meant)
				}
			}
		}
		if tag, meant := arena.Tag(a, api.Entry{}); tag != 0 || meant {
			t.Fatalf("Tag(%v, 0 of 0): %d, %t", a, tag, meant)
		}
		for _, tag := range append([]int{0, 1, 2}, noTags...) {
			if got := arena.Entries(a, tag); len(got) != 0 {
				t.Fatalf("Entries(%v, %d): %v", a, tag, got)
			}
		}
	}
}

// P11.4, R3: what only looks at an arena leaves it, and the room behind its end, and does not look at that.
func TestLooksLeaveTheArena(t *testing.T) {
	room := read("l3 f4 r5 l6 f7 r8")
	was := copied(room)
	a := api.Arena{Slabs: room.Slabs[:3]}
	if free, live, retired := arena.Counts(a); free != 1 || live != 1 || retired != 1 {
		t.Errorf("Counts: %d, %d, %d", free, live, retired)
	}
	if tag, meant := arena.Tag(a, api.Entry{Slab: 3, Gen: 6}); tag != 0 || meant {
		t.Errorf("Tag(3 of 6): %d, %t", tag, meant)
	}
	if arena.Check(a) != api.OK || !arena.Same(a, a) {
		t.Errorf("Check, Same of %v", a)
	}
	for tag, want := range []string{"1:4", "0:3", "2:5"} {
		got := arena.Entries(a, tag)
		if !slices.Equal(got, list(want)) {
			t.Errorf("Entries(%d): %v", tag, got)
		}
		again := arena.Entries(a, tag)
		got = append(got, api.Entry{Slab: 9})
		clear(got)
		if !slices.Equal(again, list(want)) || !slices.Equal(arena.Entries(a, tag), list(want)) {
			t.Errorf("Entries(%d), again: %v", tag, again)
		}
	}
	if !alone(room, was) {
		t.Errorf("the slabs are %v, not %v", room, was)
	}
}
