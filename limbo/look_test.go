package limbo_test

import (
	"slices"
	"testing"

	"honeycomb/api"
	"honeycomb/limbo"
)

// P14.4, P14.5: at the edges, and by chance.
func TestLooks(t *testing.T) {
	for _, l := range append(small(), wide()...) {
		b, was := bookOf(l), copied(l)
		if got, want := limbo.Ready(l), b.of(2); !slices.Equal(got, want) {
			t.Fatalf("Ready(%v): %v, not %v", l, got, want)
		}
		if got, want := limbo.Held(l), b.held(); !slices.Equal(got, want) {
			t.Fatalf("Held(%v): %v, not %v", l, got, want)
		}
		for slab := -1; slab <= mostSlabs; slab++ {
			got, waits := limbo.When(l, slab)
			if want, wanted := b.whenBy(slab); got != want || waits != wanted {
				t.Fatalf("When(%v, %d): %d, %t, not %d, %t", l, slab, got, waits, want, wanted)
			}
		}
		for _, slab := range noSlabs {
			if got, waits := limbo.When(l, slab); got != 0 || waits {
				t.Fatalf("When(%v, %d): %d, %t", l, slab, got, waits)
			}
		}
		if !alone(l, was) {
			t.Fatalf("%v was made %v", was, l)
		}
	}
}

// P14.4, P14.5: in numbers.
func TestLooksInNumbers(t *testing.T) {
	for _, c := range []struct{ limbo, ready, held string }{
		{"0: ; ; ", "", ""},
		{"0: ; ; 4 3", "", "4 3"},
		{"1: ; 9 8; 4 3", "", "9 8 4 3"},
		{"2: 7; 9 8; 4 3", "7", "7 9 8 4 3"},
		{"3: 7.1 0.^; ; 4 3", "7.1 0.^", "7.1 0.^ 4 3"},
		{"4: 7 127.^ 5; 1; ", "7 127.^ 5", "7 127.^ 5 1"},
		{"5: ; 1; 2", "", "1 2"},
		{"^-1: 3; 1; 2", "3", "3 1 2"},
		{"^: 3; 2; 1", "3", "3 2 1"},
	} {
		l := read(c.limbo)
		if got := limbo.Ready(l); !slices.Equal(got, entries(c.ready)) {
			t.Errorf("Ready(%s): %v", c.limbo, got)
		}
		if got := limbo.Held(l); !slices.Equal(got, entries(c.held)) {
			t.Errorf("Held(%s): %v", c.limbo, got)
		}
	}
}

// P14.5: of one that waits in each of the rows, first, in the middle, and last; of one that does not.
func TestWhenInNumbers(t *testing.T) {
	for _, c := range []struct {
		limbo string
		slab  int
		when  uint64
		waits bool
	}{
		{"0: ; ; 5", 5, 0, true},
		{"0: ; ; 5", 0, 0, false},
		{"0: ; ; ", 0, 0, false},
		{"1: ; 5; 6", 5, 0, true},
		{"1: ; 5; 6", 6, 1, true},
		{"2: 5; 6; 7", 5, 0, true},
		{"7: 1 2 3; 4 5 6; 7 8 9", 1, 5, true},
		{"7: 1 2 3; 4 5 6; 7 8 9", 2, 5, true},
		{"7: 1 2 3; 4 5 6; 7 8 9", 3, 5, true},
		{"7: 1 2 3; 4 5 6; 7 8 9", 4, 6, true},
		{"7: 1 2 3; 4 5 6; 7 8 9", 5, 6, true},
		{"7: 1 2 3; 4 5 6; 7 8 9", 6, 6, true},
		{"7: 1 2 3; 4 5 6; 7 8 9", 7, 7, true},
		{"7: 1 2 3; 4 5 6; 7 8 9", 8, 7, true},
		{"7: 1 2 3; 4 5 6; 7 8 9", 9, 7, true},
		{"7: 1 2 3; 4 5 6; 7 8 9", 0, 0, false},
		{"7: 1 2 3; 4 5 6; 7 8 9", 10, 0, false},
		{"7: 1 2 3; 4 5 6; 7 8 9", -1, 0, false},
		{"8: 1.9; 0.^; 127.^", 0, 7, true},
		{"8: 1.9; 0.^; 127.^", 127, 8, true},
		{"8: 1.9; 0.^; 127.^", 128, 0, false},
		{"8: 1.9; 0.^; 127.^", 1<<32 + 1, 0, false},
		{"^: 1; 2; 3", 1, lastEpoch - 2, true},
		{"^: 1; 2; 3", 2, lastEpoch - 1, true},
		{"^: 1; 2; 3", 3, lastEpoch, true},
	} {
		if when, waits := limbo.When(read(c.limbo), c.slab); when != c.when || waits != c.waits {
			t.Errorf("When(%s, %d): %d, %t", c.limbo, c.slab, when, waits)
		}
	}
}

// P14.4, P14.5: of what may not be nothing is told.
func TestLooksOfNoLimbo(t *testing.T) {
	for _, l := range noLimbos() {
		was := copied(l)
		if ready, held := limbo.Ready(l), limbo.Held(l); len(ready) > 0 || len(held) > 0 {
			t.Fatalf("of %v: Ready %v, Held %v", l, ready, held)
		}
		for _, slab := range append([]int{0, 1, 2, 3, 4, 5, 7, 9, 127}, noSlabs...) {
			if when, waits := limbo.When(l, slab); when != 0 || waits {
				t.Fatalf("When(%v, %d): %d, %t", l, slab, when, waits)
			}
		}
		if !alone(l, was) {
			t.Fatalf("%v was made %v", was, l)
		}
	}
}

// P14.4, P14.5, R3: what is handed in stays as it is, and is not kept; what is told is memory of its own.
func TestLooksShareNoMemory(t *testing.T) {
	for name, look := range map[string]func(l api.Limbo) []api.Entry{"Ready": limbo.Ready, "Held": limbo.Held} {
		for _, text := range []string{"5: 1 2 3; 4; 5 6", "6: 1; ; ", "7: 1 2 3; 4 5 6; ", "7: ; 4 5 6; ", "7: ; ; 4 5 6"} {
			l, rooms := roomy(read(text))
			was := copied(rooms)
			got := look(l)
			want := slices.Clone(got)
			again := look(l)
			spoil(got)
			if !alone(rooms, was) || !slices.Equal(again, want) {
				t.Fatalf("%s of %s: what was told is what was handed in, or was told ahead of it: %v, %v", name, text, rooms, again)
			}
			spoil(rooms.Rows[:]...)
			if !slices.Equal(again, want) {
				t.Fatalf("%s of %s: what was told is what was handed in: %v, not %v", name, text, again, want)
			}
		}
	}
}
