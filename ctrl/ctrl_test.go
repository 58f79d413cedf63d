package ctrl

import (
	"math"
	"testing"

	"honeycomb/api"
)

// P9.1
func TestNew(t *testing.T) {
	if c := New(); c != 0x8080808080808080 {
		t.Errorf("New: %#x", c)
	}
	if full, empty, deleted := Sets(New()); full != 0 || empty != 255 || deleted != 0 {
		t.Errorf("Sets(New): %d, %d, %d", full, empty, deleted)
	}
	if e := Check(New()); e != api.OK || !Stops(New()) {
		t.Errorf("New: %d, %t", e, Stops(New()))
	}
}

// P9.1
func TestCheck(t *testing.T) {
	for _, c := range append(words(), few()...) {
		if e := Check(c); e != api.OK {
			t.Fatalf("Check(%#x): %d, not OK", c, e)
		}
	}
	for _, c := range noWords() {
		if e := Check(c); e != api.ErrCtrl {
			t.Errorf("Check(%#x): %d, not ErrCtrl", c, e)
		}
	}
}

// P9.1: each byte there is, in each lane, beside all sorts of others.
func TestCheckOfEachByte(t *testing.T) {
	tried := few()
	for b := range 256 {
		want := api.ErrCtrl
		if b <= 127 || b == 128 || b == 254 {
			want = api.OK
		}
		for lane := range 8 {
			for _, c := range tried {
				if e := Check(with(c, lane, byte(b))); e != want {
					t.Fatalf("Check(%#x), where lane %d has %d: %d, not %d", c, lane, b, e, want)
				}
			}
		}
	}
}

// P9.1: words by chance, few of which may be.
func TestCheckByChance(t *testing.T) {
	c := chance(91)
	for range 1 << 14 {
		w := c.word() & (c.word() | 0x7f7f7f7f7f7f7f7f)
		if e := Check(w); (e == api.OK) != split(w).mayBy() || e != api.OK && e != api.ErrCtrl {
			t.Fatalf("Check(%#x): %d", w, e)
		}
	}
}

// P9.2: of all rows of sorts, and each H2 that one has, and others.
func TestMatch(t *testing.T) {
	for _, c := range words() {
		b := split(c)
		for _, h2 := range append(b[:], 0, 5, 127, 128, 254, 255) {
			want, no := b.matchBy(h2)
			if got, e := Match(c, h2); got != want || e != no {
				t.Fatalf("Match(%#x, %d): %d, %d, not %d, %d", c, h2, got, e, want, no)
			}
		}
	}
}

// P9.2: each H2 there is, and each number beyond, that no slot can have, though some lane has that byte.
func TestMatchOfEachByte(t *testing.T) {
	for _, c := range append(few(), noWords()...) {
		for h2 := range 256 {
			want, no := split(c).matchBy(byte(h2))
			if got, e := Match(c, byte(h2)); got != want || e != no {
				t.Fatalf("Match(%#x, %d): %d, %d, not %d, %d", c, h2, got, e, want, no)
			}
		}
	}
}

// P9.2: in numbers.
func TestMatchInNumbers(t *testing.T) {
	for _, c := range []struct {
		c    uint64
		h2   byte
		want api.Mask
		e    api.Errno
	}{
		{0x8080808080808080, 0, 0, api.OK},
		{0x8080808080808080, 127, 0, api.OK},
		{0x8080808080808080, 128, 0, api.ErrArg},
		{0x8080808080808080, 255, 0, api.ErrArg},
		{0xfefefefefefefefe, 126, 0, api.OK},
		{0xfefefefefefefefe, 254, 0, api.ErrArg},
		{0, 0, 255, api.OK},
		{0, 1, 0, api.OK},
		{0, 128, 0, api.ErrArg},
		{0x7f7f7f7f7f7f7f7f, 127, 255, api.OK},
		{0x7f7f7f7f7f7f7f7f, 255, 0, api.ErrArg},
		{0x0001000100010001, 1, 85, api.OK},
		{0x0001000100010001, 0, 170, api.OK},
		{0x0100000000000001, 1, 129, api.OK},
		{0x8080808080050905, 5, 5, api.OK},
		{0x8080808080050905, 9, 2, api.OK},
		{0x81, 0, 0, api.ErrCtrl},
		{0x81, 128, 0, api.ErrCtrl},
		{math.MaxUint64, 255, 0, api.ErrCtrl},
	} {
		if got, e := Match(c.c, c.h2); got != c.want || e != c.e {
			t.Errorf("Match(%#x, %d): %d, %d, not %d, %d", c.c, c.h2, got, e, c.want, c.e)
		}
	}
}

// P9.2, P9.5: of all rows of sorts; each lane is in just one of the sets.
func TestSetsAndStops(t *testing.T) {
	for _, c := range append(words(), few()...) {
		b := split(c)
		full, empty, deleted := Sets(c)
		if full != b.lanesBy(isFull) || empty != b.lanesBy(isEmpty) || deleted != b.lanesBy(isDeleted) {
			t.Fatalf("Sets(%#x): %d, %d, %d", c, full, empty, deleted)
		}
		if int(full)+int(empty)+int(deleted) != 255 || full|empty|deleted != 255 {
			t.Fatalf("Sets(%#x): %d, %d, %d, some lane in none, or in two", c, full, empty, deleted)
		}
		if Stops(c) != (empty != 0) {
			t.Fatalf("Stops(%#x): %t", c, Stops(c))
		}
	}
}

// P9.2: in numbers.
func TestSetsAndStopsInNumbers(t *testing.T) {
	for _, c := range []struct {
		c                    uint64
		full, empty, deleted api.Mask
		stops                bool
	}{
		{0x8080808080808080, 0, 255, 0, true},
		{0xfefefefefefefefe, 0, 0, 255, false},
		{0, 255, 0, 0, false},
		{0x7f7f7f7f7f7f7f7f, 255, 0, 0, false},
		{0x7f7f7f7f7f7f7f80, 254, 1, 0, true},
		{0x807f7f7f7f7f7f7f, 127, 128, 0, true},
		{0xfefefe80fefefefe, 0, 16, 239, true},
		{0x0500fe80057f80fe, 204, 18, 33, true},
		{0xfe7f00fe7f00fe7f, 109, 0, 146, false},
		{0x8080808080808081, 0, 0, 0, false},
		{0xff80808080808080, 0, 0, 0, false},
		{math.MaxUint64, 0, 0, 0, false},
	} {
		full, empty, deleted := Sets(c.c)
		if full != c.full || empty != c.empty || deleted != c.deleted || Stops(c.c) != c.stops {
			t.Errorf("Sets, Stops(%#x): %d, %d, %d, %t", c.c, full, empty, deleted, Stops(c.c))
		}
	}
}

// P9.2: of a word that may not be they tell nothing, though some slots be empty.
func TestSetsAndStopsOfNoWord(t *testing.T) {
	for _, c := range noWords() {
		if full, empty, deleted := Sets(c); full != 0 || empty != 0 || deleted != 0 {
			t.Errorf("Sets(%#x): %d, %d, %d", c, full, empty, deleted)
		}
		if Stops(c) {
			t.Errorf("%#x stops", c)
		}
	}
}

// P9.1 to P9.4: ErrCtrl goes ahead of all else, and stands alone: whether what comes with it is right, or wrong.
func TestNoSuchWord(t *testing.T) {
	for _, c := range noWords() {
		for _, h2 := range h2s {
			if got, e := Match(c, h2); got != 0 || e != api.ErrCtrl {
				t.Fatalf("Match(%#x, %d): %d, %d", c, h2, got, e)
			}
			for _, lane := range append([]int{0, 1, 3, 6, 7}, noLanes...) {
				if got, e := Fill(c, lane, h2); got != 0 || e != api.ErrCtrl {
					t.Fatalf("Fill(%#x, %d, %d): %#x, %d", c, lane, h2, got, e)
				}
				if got, e := Erase(c, lane); got != 0 || e != api.ErrCtrl {
					t.Fatalf("Erase(%#x, %d): %#x, %d", c, lane, got, e)
				}
			}
			for _, l := range [][]byte{nil, {}, {h2}, {5, h2}, {h2, 5, 5, 5, 5, 5, 5, 5, 5}} {
				if got, which, e := Fills(c, l...); got != 0 || which != nil || e != api.ErrCtrl {
					t.Fatalf("Fills(%#x; %v): %#x, %v, %d", c, l, got, which, e)
				}
			}
		}
		if got, e := Ready(c); got != 0 || e != api.ErrCtrl {
			t.Fatalf("Ready(%#x): %#x, %d", c, got, e)
		}
	}
}

// P9.1 to P9.4: the chapter's examples.
func TestExamples(t *testing.T) {
	one, which, e := Fills(New(), 5, 9, 5)
	if one != 0x8080808080050905 || len(which) != 3 || which[0] != 0 || which[1] != 1 || which[2] != 2 || e != api.OK {
		t.Errorf("Fills(New; 5 9 5): %#x, %v, %d", one, which, e)
	}
	if m, e := Match(one, 5); m != 5 || e != api.OK {
		t.Errorf("Match(that, 5): %d, %d", m, e)
	}
	if m, e := Match(one, 128); m != 0 || e != api.ErrArg {
		t.Errorf("Match(that, 128): %d, %d", m, e)
	}
	if full, empty, deleted := Sets(one); full != 7 || empty != 248 || deleted != 0 {
		t.Errorf("Sets(that): %d, %d, %d", full, empty, deleted)
	}
	less, e := Erase(one, 1)
	if full, empty, deleted := Sets(less); full != 5 || empty != 250 || deleted != 0 || e != api.OK {
		t.Errorf("Erase(that, 1): %#x, %d: %d, %d, %d", less, e, full, empty, deleted)
	}
	threes, e := Erase(0x0303030303030303, 4)
	if threes != 0x030303fe03030303 || e != api.OK || Stops(threes) {
		t.Errorf("Erase(eight times 3, 4): %#x, %d, %t", threes, e, Stops(threes))
	}
	if c, e := Fill(one, 0, 7); c != 0 || e != api.ErrThere {
		t.Errorf("Fill(that first one, 0, 7): %#x, %d", c, e)
	}
	if c, e := Erase(New(), 0); c != 0 || e != api.ErrNone {
		t.Errorf("Erase(New, 0): %#x, %d", c, e)
	}
	if c, e := Fill(New(), 8, 7); c != 0 || e != api.ErrLane {
		t.Errorf("Fill(New, 8, 7): %#x, %d", c, e)
	}
	c, e := Ready(0xfe80808080050905)
	if full, empty, deleted := Sets(c); full != 0 || empty != 248 || deleted != 7 || e != api.OK {
		t.Errorf("Ready(the first one, lane 7 deleted): %#x, %d: %d, %d, %d", c, e, full, empty, deleted)
	}
}
