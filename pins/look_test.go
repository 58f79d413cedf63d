package pins_test

import (
	"math"
	"slices"
	"testing"

	"honeycomb/api"
	"honeycomb/pins"
)

// P13.4: at the edges, and by chance: none, one, and all of those that pin hold back.
func TestLooks(t *testing.T) {
	for _, p := range append(small(), wide()...) {
		b, was := bookOf(p), copied(p)
		if got, want := pins.Back(p), b.backBy(); !slices.Equal(got, want) {
			t.Fatalf("Back(%v): %v, not %v", p, got, want)
		}
		got, some := pins.Oldest(p)
		if want, wantSome := b.oldestBy(); got != want || some != wantSome {
			t.Fatalf("Oldest(%v): %d, %t, not %d, %t", p, got, some, want, wantSome)
		}
		for _, epoch := range epochsNear(p.Epoch) {
			if got := pins.Safe(p, epoch); got != b.safeBy(epoch) {
				t.Fatalf("Safe(%v, %d): %t", p, epoch, got)
			}
		}
		if !alone(p, was) {
			t.Fatalf("%v were made %v", was, p)
		}
	}
}

// epochsNear are the Epoch, up to 3 less, and up to 3 more, and the least and the greatest numbers of all.
func epochsNear(epoch uint64) []uint64 {
	return []uint64{epoch, epoch - 1, epoch - 2, epoch - 3, epoch + 1, epoch + 2, epoch + 3,
		0, 1, 2, lastEpoch - 2, lastEpoch - 1, lastEpoch, lastEpoch + 1, math.MaxInt64, 1 << 63,
		math.MaxUint64 - 3, math.MaxUint64 - 2, math.MaxUint64 - 1, math.MaxUint64}
}

// P13.4: who holds back, and the oldest one, in numbers.
func TestBackAndOldestInNumbers(t *testing.T) {
	for text, c := range map[string]struct {
		back   []int
		oldest uint64
		some   bool
	}{
		"0 -":               {nil, 0, false},
		"0 0":               {nil, 0, true},
		"1 0":               {[]int{0}, 0, true},
		"1 1":               {nil, 1, true},
		"7 - - -":           {nil, 0, false},
		"7 7 - 7":           {nil, 7, true},
		"7 7 6 7":           {[]int{1}, 6, true},
		"7 6 - 7":           {[]int{0}, 6, true},
		"7 - 7 3":           {[]int{2}, 3, true},
		"7 3 7 5":           {[]int{0, 2}, 3, true},
		"7 5 4 3":           {[]int{0, 1, 2}, 3, true},
		"7 5 0 3":           {[]int{0, 1, 2}, 0, true},
		"7 0 1 2 3 4 5 6 7": {[]int{0, 1, 2, 3, 4, 5, 6}, 0, true},
		"7 7 6 5 4 3 2 1 0": {[]int{1, 2, 3, 4, 5, 6, 7}, 0, true},
		"7 6 6 6 6 6 6 6 6": {[]int{0, 1, 2, 3, 4, 5, 6, 7}, 6, true},
		"7 7 7 7 7 7 7 7 7": {nil, 7, true},
		"7 - - - - - - - 2": {[]int{7}, 2, true},
		"^ ^ - ^":           {nil, lastEpoch, true},
		"^ ^ ^-1 -":         {[]int{1}, lastEpoch - 1, true},
		"^ ^ ^-1 0":         {[]int{1, 2}, 0, true},
	} {
		p := read(text)
		if got := pins.Back(p); !slices.Equal(got, c.back) {
			t.Errorf("Back(%s): %v, not %v", text, got, c.back)
		}
		if got, some := pins.Oldest(p); got != c.oldest || some != c.some {
			t.Errorf("Oldest(%s): %d, %t, not %d, %t", text, got, some, c.oldest, c.some)
		}
	}
}

// P13.4: what is safe, in numbers; whoever pins, and holds back.
func TestSafeInNumbers(t *testing.T) {
	for _, c := range []struct {
		pins string
		safe map[uint64]bool
	}{
		{"0 -", map[uint64]bool{0: false, 1: false, 2: false, math.MaxUint64: false, math.MaxUint64 - 1: false, math.MaxUint64 - 2: false}},
		{"1 0", map[uint64]bool{0: false, 1: false, 2: false, math.MaxUint64: false, math.MaxUint64 - 1: false}},
		{"2 -", map[uint64]bool{0: true, 1: false, 2: false, 3: false, math.MaxUint64: false}},
		{"2 0", map[uint64]bool{0: true, 1: false, 2: false}},
		{"9 9 8 -", map[uint64]bool{0: true, 5: true, 6: true, 7: true, 8: false, 9: false, 10: false, 11: false, 1 << 63: false}},
		{"9 - 0 -", map[uint64]bool{0: true, 5: true, 6: true, 7: true, 8: false, 9: false, 10: false, 11: false, 1 << 63: false}},
		{"^ ^", map[uint64]bool{0: true, lastEpoch - 3: true, lastEpoch - 2: true, lastEpoch - 1: false, lastEpoch: false, lastEpoch + 1: false, math.MaxUint64: false}},
		{"^-1 0", map[uint64]bool{0: true, lastEpoch - 3: true, lastEpoch - 2: false, lastEpoch - 1: false, lastEpoch: false}},
	} {
		for epoch, want := range c.safe {
			if got := pins.Safe(read(c.pins), epoch); got != want {
				t.Errorf("Safe(%s, %d): %t", c.pins, epoch, got)
			}
		}
	}
}

// P13.4: nothing is told of what may not be.
func TestLooksOfNoPins(t *testing.T) {
	for _, p := range noPins() {
		was := copied(p)
		if got := pins.Back(p); len(got) != 0 {
			t.Fatalf("Back(%v): %v", p, got)
		}
		if got, some := pins.Oldest(p); got != 0 || some {
			t.Fatalf("Oldest(%v): %d, %t", p, got, some)
		}
		for _, epoch := range epochsNear(p.Epoch) {
			if pins.Safe(p, epoch) {
				t.Fatalf("Safe(%v, %d)", p, epoch)
			}
		}
		if !alone(p, was) {
			t.Fatalf("%v were made %v", was, p)
		}
	}
}

// P13.4, R3: what only looks at pins leaves them, and the room behind their end, and does not look at that; what is told is new.
func TestLooksLeaveThePins(t *testing.T) {
	p, rooms := roomy(read("5 4 - 5 3"))
	rooms.Slots[4], rooms.Slots[5] = 1, 99 // what is behind the end pins none, and is no slot
	was := copied(rooms)
	got := pins.Back(p)
	if oldest, some := pins.Oldest(p); !slices.Equal(got, []int{0, 3}) || oldest != 3 || !some || !pins.Safe(p, 3) || pins.Check(p) != api.OK || !pins.Same(p, p) {
		t.Errorf("Back(%v): %v; Oldest: %d, %t", p, got, oldest, some)
	}
	clear(append(got, 9))
	clear(got)
	if again := pins.Back(p); !slices.Equal(again, []int{0, 3}) || !alone(rooms, was) {
		t.Errorf("Back, again: %v, of %v", again, rooms)
	}
}
