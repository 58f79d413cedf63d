package ctrl

import (
	"math"
	"testing"

	"honeycomb/api"
)

// P9.3: of all rows of sorts, each slot, with H2s at the edges; what comes may be, and the H2 matches there.
func TestFill(t *testing.T) {
	for _, c := range words() {
		for lane := range 8 {
			for _, h2 := range []byte{0, 5, 127, 128, 255} {
				want, no := split(c).fillBy(lane, h2)
				got, e := Fill(c, lane, h2)
				if got != want || e != no {
					t.Fatalf("Fill(%#x, %d, %d): %#x, %d, not %#x, %d", c, lane, h2, got, e, want, no)
				}
				if m, _ := Match(got, h2); e == api.OK && (Check(got) != api.OK || m>>lane&1 != 1) {
					t.Fatalf("Fill(%#x, %d, %d): %#x, which matches at %d", c, lane, h2, got, m)
				}
			}
		}
	}
}

// P9.3: each H2, and each number beyond, of few words, in each lane, and in none.
func TestFillOfEachByte(t *testing.T) {
	for _, c := range few() {
		for _, lane := range append([]int{0, 1, 2, 3, 4, 5, 6, 7}, noLanes...) {
			for h2 := range 256 {
				want, no := split(c).fillBy(lane, byte(h2))
				if got, e := Fill(c, lane, byte(h2)); got != want || e != no {
					t.Fatalf("Fill(%#x, %d, %d): %#x, %d, not %#x, %d", c, lane, h2, got, e, want, no)
				}
			}
		}
	}
}

// P9.3: in numbers; ErrLane ahead of ErrArg, ErrArg ahead of ErrThere.
func TestFillInNumbers(t *testing.T) {
	for _, c := range []struct {
		c    uint64
		lane int
		h2   byte
		want uint64
		e    api.Errno
	}{
		{0x8080808080808080, 0, 0, 0x8080808080808000, api.OK},
		{0x8080808080808080, 7, 127, 0x7f80808080808080, api.OK},
		{0x8080808080808080, 3, 5, 0x8080808005808080, api.OK},
		{0xfefefefefefefefe, 0, 127, 0xfefefefefefefe7f, api.OK},
		{0xfefefefefefefefe, 7, 0, 0x00fefefefefefefe, api.OK},
		{0x03030303fe030380, 0, 9, 0x03030303fe030309, api.OK},
		{0x03030303fe030380, 3, 9, 0x0303030309030380, api.OK},
		{0x03030303fe030380, 1, 9, 0, api.ErrThere},
		{0x03030303fe030380, 7, 3, 0, api.ErrThere},
		{0, 0, 0, 0, api.ErrThere},
		{0x03030303fe030380, 0, 128, 0, api.ErrArg},
		{0x03030303fe030380, 0, 255, 0, api.ErrArg},
		{0x03030303fe030380, 3, 254, 0, api.ErrArg},
		{0x03030303fe030380, 1, 128, 0, api.ErrArg},
		{0x03030303fe030380, 1, 255, 0, api.ErrArg},
		{0x03030303fe030380, -1, 3, 0, api.ErrLane},
		{0x03030303fe030380, 8, 3, 0, api.ErrLane},
		{0x03030303fe030380, -1, 128, 0, api.ErrLane},
		{0x03030303fe030380, 8, 255, 0, api.ErrLane},
		{0x03030303fe030380, math.MinInt, 255, 0, api.ErrLane},
		{0x03030303ff030380, 8, 255, 0, api.ErrCtrl},
		{0x03030303ff030380, 1, 3, 0, api.ErrCtrl},
	} {
		if got, e := Fill(c.c, c.lane, c.h2); got != c.want || e != c.e {
			t.Errorf("Fill(%#x, %d, %d): %#x, %d, not %#x, %d", c.c, c.lane, c.h2, got, e, c.want, c.e)
		}
	}
}

// P9.3, P9.5: of all rows of sorts, each slot; what comes may be, the slot is full no more, and the word stops just if it did.
func TestErase(t *testing.T) {
	for _, c := range append(words(), few()...) {
		for lane := range 8 {
			want, no := split(c).eraseBy(lane)
			got, e := Erase(c, lane)
			if got != want || e != no {
				t.Fatalf("Erase(%#x, %d): %#x, %d, not %#x, %d", c, lane, got, e, want, no)
			}
			if full, _, _ := Sets(got); e == api.OK && (Check(got) != api.OK || full>>lane&1 != 0 || Stops(got) != Stops(c)) {
				t.Fatalf("Erase(%#x, %d): %#x", c, lane, got)
			}
		}
		for _, lane := range noLanes {
			if got, e := Erase(c, lane); got != 0 || e != api.ErrLane {
				t.Fatalf("Erase(%#x, %d): %#x, %d, not ErrLane", c, lane, got, e)
			}
		}
	}
}

// P9.3: in numbers.
func TestEraseInNumbers(t *testing.T) {
	for _, c := range []struct {
		c    uint64
		lane int
		want uint64
		e    api.Errno
	}{
		{0, 0, 0xfe, api.OK},
		{0, 7, 0xfe00000000000000, api.OK},
		{0x7f7f7f7f7f7f7f7f, 3, 0x7f7f7f7ffe7f7f7f, api.OK},
		{0x80, 1, 0x8080, api.OK},
		{0x80, 7, 0x8000000000000080, api.OK},
		{0x8000000000000000, 0, 0x8000000000000080, api.OK},
		{0xfe00000000000000, 0, 0xfe000000000000fe, api.OK},
		{0xfe00000000000080, 1, 0xfe00000000008080, api.OK},
		{0xfefefefefefefe05, 0, 0xfefefefefefefefe, api.OK},
		{0x8080808080808005, 0, 0x8080808080808080, api.OK},
		{0x8080808080808005, 1, 0, api.ErrNone},
		{0x8080808080808005, 7, 0, api.ErrNone},
		{0xfefefefefefefe05, 1, 0, api.ErrNone},
		{0xfefefefefefefe05, 8, 0, api.ErrLane},
		{0xfefefefefefefe05, -1, 0, api.ErrLane},
		{0xfefefefefefefe85, 8, 0, api.ErrCtrl},
		{0xfefefefefefefe85, 0, 0, api.ErrCtrl},
	} {
		if got, e := Erase(c.c, c.lane); got != c.want || e != c.e {
			t.Errorf("Erase(%#x, %d): %#x, %d, not %#x, %d", c.c, c.lane, got, e, c.want, c.e)
		}
	}
}

// P9.5: what is filled matches; erased, it does not.
func TestFilledAndErased(t *testing.T) {
	for _, c := range few() {
		for lane := range 8 {
			for h2 := range byte(128) {
				filled, e := Fill(c, lane, h2)
				if e != api.OK {
					continue
				}
				if m, _ := Match(filled, h2); m>>lane&1 != 1 {
					t.Fatalf("Fill(%#x, %d, %d): %#x, which does not match", c, lane, h2, filled)
				}
				erased, e := Erase(filled, lane)
				if m, _ := Match(erased, h2); e != api.OK || m>>lane&1 != 0 {
					t.Fatalf("Erase(%#x, %d): %#x, %d, which matches %d", filled, lane, erased, e, h2)
				}
				for _, other := range []byte{0, 5, 127, (h2 - 1) & 127, (h2 + 1) & 127} {
					before, _ := Match(c, other)
					if m, _ := Match(erased, other); m != before {
						t.Fatalf("Match(%#x, %d): %d, not %d as ahead of the filling", erased, other, m, before)
					}
				}
			}
		}
	}
}

// P9.5: a word that stops stops, whatever is erased, slot by slot; one that does not, does not.
func TestErasedOneByOne(t *testing.T) {
	for _, c := range words() {
		for _, order := range [][]int{{0, 1, 2, 3, 4, 5, 6, 7}, {7, 6, 5, 4, 3, 2, 1, 0}, {3, 0, 6, 1, 7, 4, 2, 5}} {
			left := c
			for _, lane := range order {
				if behind, e := Erase(left, lane); e == api.OK {
					left = behind
				}
				if Stops(left) != Stops(c) || Check(left) != api.OK {
					t.Fatalf("%#x, erased %v: %#x", c, order, left)
				}
			}
			if full, _, _ := Sets(left); full != 0 {
				t.Fatalf("%#x, erased %v: %#x, of which %d are full", c, order, left, full)
			}
		}
	}
}

// P9.4, P9.5: of all rows of sorts.
func TestReady(t *testing.T) {
	for _, c := range append(words(), few()...) {
		want, no := split(c).readyBy()
		got, e := Ready(c)
		if got != want || e != no || Check(got) != api.OK {
			t.Fatalf("Ready(%#x): %#x, %d, not %#x", c, got, e, want)
		}
		was, _, _ := Sets(c)
		if full, empty, deleted := Sets(got); full != 0 || deleted != was || empty != ^was {
			t.Fatalf("Ready(%#x): %#x: %d, %d, %d", c, got, full, empty, deleted)
		}
	}
}

// P9.4: in numbers.
func TestReadyInNumbers(t *testing.T) {
	for _, c := range [][2]uint64{
		{0x8080808080808080, 0x8080808080808080},
		{0xfefefefefefefefe, 0x8080808080808080},
		{0, 0xfefefefefefefefe},
		{0x7f7f7f7f7f7f7f7f, 0xfefefefefefefefe},
		{0x8080808080808005, 0x80808080808080fe},
		{0x05fe808080fe8080, 0xfe80808080808080},
		{0x7ffe80007ffe8000, 0xfe8080fefe8080fe},
	} {
		if got, e := Ready(c[0]); got != c[1] || e != api.OK {
			t.Errorf("Ready(%#x): %#x, %d, not %#x", c[0], got, e, c[1])
		}
	}
}
