package epoch_test

import (
	"slices"
	"testing"

	"honeycomb/api"
	"honeycomb/epoch"
)

// holdTry is of a reclaim that may be.
func holdTry(t *testing.T, r api.Reclaim) (int, bool) {
	t.Helper()
	was, b := copied(r), bookOf(r)
	wantGiven, wantWent := b.tryBy()
	got, given, went, e := epoch.Try(r)
	if !alone(got, b.reclaim()) || !slices.Equal(given, wantGiven) || went != wantWent || e != api.OK {
		t.Fatalf("Try(%v): %v, %v, %t, %d, not %v, %v, %t", r, got, given, went, e, b.reclaim(), wantGiven, wantWent)
	}
	if !alone(r, was) {
		t.Fatalf("Try(%v) made it %v", was, r)
	}
	if epoch.Check(got) != api.OK {
		t.Fatalf("Try(%v): %v, which may not be", r, got)
	}
	return len(given), went
}

// P15.4: at the edges, and by chance.
func TestTry(t *testing.T) {
	given, went := map[int]int{}, map[bool]int{}
	for _, r := range append(small(), wide()...) {
		many, on := holdTry(t, r)
		given[many]++
		went[on]++
	}
	if len(given) < 15 || went[true] < 300 || went[false] < 300 {
		t.Errorf("so many were given back: %v; the epoch went on: %v", given, went)
	}
}

// P15.4: in numbers.
func TestTryInNumbers(t *testing.T) {
	for _, c := range []struct {
		from, to, given string
		went            bool
	}{
		// with nothing that waits
		{"0 - | f f | ", "1 - | f f | ", "", true},
		{"5 - 5 | l f | ", "6 - 5 | l f | ", "", true},
		{"5 - 4 | l f | ", "5 - 4 | l f | ", "", false},
		{"^-1 - | l f | ", "^ - | l f | ", "", true},
		{"^ - ^ | l f | ", "^ - ^ | l f | ", "", false},
		// with something ready
		{"5 - | r7 l | 0; ; ", "6 - | f8 l | ", "0.7", true},
		{"5 5 | r7 l | 0; ; ", "6 5 | f8 l | ", "0.7", true},
		{"5 4 | r7 l | 0; ; ", "5 4 | f8 l | ", "0.7", false}, // it is given back, whoever holds the epoch back
		{"5 4 | r r1 r2 | 1; 0; 2", "5 4 | r f2 r2 | ; 0; 2", "1.1", false},
		{"^ - | r r1 r2 | 1 2; 0; ", "^ - | r f2 f3 | ; 0; ", "1.1 2.2", false},
		{"^ ^-1 | r r1 r2 | 1 2; 0; ", "^ ^-1 | r f2 f3 | ; 0; ", "1.1 2.2", false},
		{"^-1 - | r r1 r2 | 1 2; 0; ", "^ - | f1 f2 f3 | ", "1.1 2.2 0", true},
		// with something ready behind the epoch's going on
		{"5 - | r7 l | ; 0; ", "6 - | f8 l | ", "0.7", true},
		{"5 5 | r7 r1 | ; 1 0; ", "6 5 | f8 f2 | ", "1.1 0.7", true},
		{"5 4 | r7 l | ; 0; ", "5 4 | r7 l | ; 0; ", "", false},
		{"1 - | r r | ; 0; 1", "2 - | f1 r | ; 1; ", "0", true},
		{"0 - | r r | ; ; 0 1", "1 - | r r | ; 0 1; ", "", true},
		// with something of each
		{"5 - | r r1 r2 r3 r4 r5 | 4 1; 0 5; 3 2", "6 - | f1 f2 r2 r3 f5 f6 | ; 3 2; ", "4.4 1.1 0 5.5", true},
		{"5 - | r r1 r2 r3 r4 r5 | 4 1; ; 3 2 0 5", "6 - | r f2 r2 r3 f5 r5 | ; 3 2 0 5; ", "4.4 1.1", true},
		// with a slab of the last generation, which can't be given back: then the epoch can't go on
		{"5 - | r^ l1 | 0; ; ", "5 - | r^ l1 | 0; ; ", "", false},
		{"5 - | r^ r1 r | 1 0 2; ; ", "5 - | r^ f2 r | 0 2; ; ", "1.1", false},
		{"5 - | r^ r1 r | 1; 2 0; ", "6 - | r^ f2 f1 | 0; ; ", "1.1 2", true},
		{"5 - | r^ r1 r | 1; 0 2; ", "6 - | r^ f2 r | 0 2; ; ", "1.1", true},
		{"5 - | r^-1 l | 0; ; ", "6 - | f^ l | ", "0.^-1", true},
	} {
		got, given, went, e := epoch.Try(read(c.from))
		if !alone(got, read(c.to)) || !slices.Equal(given, entries(c.given)) || went != c.went || e != api.OK {
			t.Errorf("Try(%s): %v, %v, %t, %d, not %s, %s, %t", c.from, got, given, went, e, c.to, c.given, c.went)
		}
	}
}

// P15.4: all slabs are given back by one try, of two rows.
func TestTryOfAllSlabs(t *testing.T) {
	c := chance(11)
	b := newBook(lastEpoch-1, mostGoers, mostSlabs)
	for n, slab := range c.order(mostSlabs) {
		b.gens[slab] = c.word() >> 25
		b.waits = append(b.waits, aged{slab, uint64(2 - n/64)})
	}
	r, want := b.reclaim(), b.held()
	if many, went := holdTry(t, r); many != mostSlabs || !went {
		t.Errorf("Try: %d, %t", many, went)
	}
	if _, given, _, _ := epoch.Try(r); !slices.Equal(given, want) {
		t.Errorf("Try: %v, not %v", given, want)
	}
}

// holdSettle is of a reclaim that may be.
func holdSettle(t *testing.T, r api.Reclaim) (int, api.Errno) {
	t.Helper()
	was, b := copied(r), bookOf(r)
	wantGiven, no := b.settleBy()
	want := api.Reclaim{}
	if no == api.OK {
		want = b.reclaim()
	}
	got, given, e := epoch.Settle(r)
	if e != no || !alone(got, want) || !slices.Equal(given, wantGiven) || e != api.OK && (!nothing(got) || given != nil) {
		t.Fatalf("Settle(%v): %v, %v, %d, not %v, %v, %d", r, got, given, e, want, wantGiven, no)
	}
	if !alone(r, was) {
		t.Fatalf("Settle(%v) made it %v", was, r)
	}
	if e == api.OK && epoch.Check(got) != api.OK {
		t.Fatalf("Settle(%v): %v, which may not be", r, got)
	}
	return len(given), e
}

// P15.4: at the edges, and by chance; of such as nobody pins, too.
func TestSettle(t *testing.T) {
	given, met := map[int]int{}, map[api.Errno]int{}
	for _, r := range append(small(), wide()...) {
		many, e := holdSettle(t, r)
		met[e]++
		given[many]++
		many, e = holdSettle(t, changed(r, func(r *api.Reclaim) { clear(r.Pins.Slots) }))
		met[e]++
		given[many]++
	}
	if len(given) < 15 || met[api.OK] < 2000 || met[api.ErrHeld] < 500 || len(met) != 2 {
		t.Errorf("so many were given back: %v; errors %v", given, met)
	}
}

// P15.4: in numbers.
func TestSettleInNumbers(t *testing.T) {
	for _, c := range []struct {
		from, to, given string
		e               api.Errno
	}{
		// with somebody who pins, whatever that is, and whatever waits
		{"5 - 5 | r f | 0; ; ", "", "", api.ErrHeld},
		{"5 - 4 | r f | 0; ; ", "", "", api.ErrHeld},
		{"5 0 - | r f | ; ; 0", "", "", api.ErrHeld},
		{"5 - 5 | l f | ", "", "", api.ErrHeld},
		{"0 0 | l f | ", "", "", api.ErrHeld},
		{"^ - ^ | r^ f | 0; ; ", "", "", api.ErrHeld},
		// with nothing that waits: no try
		{"0 - | f f | ", "0 - | f f | ", "", api.OK},
		{"5 - - | l f7 l^ | ", "5 - - | l f7 l^ | ", "", api.OK},
		{"^ - | l f | ", "^ - | l f | ", "", api.OK},
		// with something in one of the rows, or in each
		{"5 - | r7 l | 0; ; ", "6 - | f8 l | ", "0.7", api.OK},
		{"5 - | r7 l | ; 0; ", "6 - | f8 l | ", "0.7", api.OK},
		{"5 - | r7 l | ; ; 0", "7 - | f8 l | ", "0.7", api.OK},
		{"0 - | r l | ; ; 0", "2 - | f1 l | ", "0", api.OK},
		{"5 - | r r1 r2 r3 r4 r5 l | 4 1; 0 5; 3 2", "7 - | f1 f2 f3 f4 f5 f6 l | ", "4.4 1.1 0 5.5 3.3 2.2", api.OK},
		{"5 - | r r1 r2 | 2; ; 1 0", "7 - | f1 f2 f3 | ", "2.2 1.1 0", api.OK},
		{"^-2 - | r r1 r2 | 2; 1; 0", "^ - | f1 f2 f3 | ", "2.2 1.1 0", api.OK},
		// until the epoch can't go on any more
		{"^-1 - | r r1 r2 | 2; 1; 0", "^ - | r f2 f3 | ; 0; ", "2.2 1.1", api.OK},
		{"^-1 - | r r1 f | ; ; 0 1", "^ - | r r1 f | ; 0 1; ", "", api.OK},
		{"^ - | r r1 r2 | 2; 1; 0", "^ - | r r1 f3 | ; 1; 0", "2.2", api.OK},
		{"^ - | r r1 f | ; 1; 0", "^ - | r r1 f | ; 1; 0", "", api.OK},
		{"^ - | r r1 l | 1 0; ; ", "^ - | f1 f2 l | ", "1.1 0", api.OK},
		// with a slab of the last generation, as it can't go on then, either
		{"5 - | r^ r1 r2 | 0; 1; 2", "5 - | r^ r1 r2 | 0; 1; 2", "", api.OK},
		{"5 - | r^ r1 r2 | 1 0 2; ; ", "5 - | r^ f2 r2 | 0 2; ; ", "1.1", api.OK},
		{"5 - | r^ r1 r2 | 1; 2 0; ", "6 - | r^ f2 f3 | 0; ; ", "1.1 2.2", api.OK},
		{"5 - | r^ r1 r2 | 1; 2; 0", "7 - | r^ f2 f3 | 0; ; ", "1.1 2.2", api.OK},
		{"0 - | r^ r1 | ; ; 0 1", "2 - | r^ r1 | 0 1; ; ", "", api.OK},
	} {
		got, given, e := epoch.Settle(read(c.from))
		if !alone(got, read(c.to)) || !slices.Equal(given, entries(c.given)) || e != c.e {
			t.Errorf("Settle(%s): %v, %v, %d, not %s, %s, %d", c.from, got, given, e, c.to, c.given, c.e)
		}
	}
}

// P15.4: with each goroutine pinning, alone.
func TestSettleOfEachGoer(t *testing.T) {
	for goers := 1; goers <= mostGoers; goers++ {
		for goer := range goers {
			for _, slot := range []uint64{1, 5, 6} {
				r := read("5 - | r l | ; 0; ")
				r.Pins.Slots = make([]uint64, goers)
				r.Pins.Slots[goer] = slot
				if got, given, e := epoch.Settle(r); !nothing(got) || given != nil || e != 231 {
					t.Fatalf("Settle(%v): %v, %v, %d", r, got, given, e)
				}
			}
		}
	}
}

// P15.4: of what may not be: Try and Settle tell ErrReclaim, Waits nothing.
func TestTriesOfNoReclaim(t *testing.T) {
	for _, r := range noReclaims() {
		was := copied(r)
		if got, given, went, e := epoch.Try(r); !nothing(got) || given != nil || went || e != 250 {
			t.Fatalf("Try(%v): %v, %v, %t, %d", r, got, given, went, e)
		}
		if got, given, e := epoch.Settle(r); !nothing(got) || given != nil || e != 250 {
			t.Fatalf("Settle(%v): %v, %v, %d", r, got, given, e)
		}
		if n := epoch.Waits(r); n != 0 {
			t.Fatalf("Waits(%v): %d", r, n)
		}
		if !alone(r, was) {
			t.Fatalf("%v was made %v", was, r)
		}
	}
}

// P15.4: of none, of one, of some, of all slabs.
func TestWaits(t *testing.T) {
	for text, want := range map[string]int{
		"0 - | f f | ":                            0,
		"5 4 | l l^ f3 | ":                        0,
		"0 0 | r l | ; ; 0":                       1,
		"5 - | l r3 | ; 1; ":                      1,
		"5 - | l r^ | 1; ; ":                      1,
		"^ - | r r | 0; ; 1":                      2,
		"5 - 4 | f3 l1 r2 r r7 l | 2; 3; 4":       3,
		"5 - 4 | f3 l1 r2 r r7 l r9 | 2 6; 3 4; ": 4,
	} {
		if got := epoch.Waits(read(text)); got != want {
			t.Errorf("Waits(%s): %d, not %d", text, got, want)
		}
	}
	all := 0
	for _, r := range append(small(), wide()...) {
		was, want := copied(r), len(bookOf(r).waits)
		if got := epoch.Waits(r); got != want {
			t.Fatalf("Waits(%v): %d, not %d", r, got, want)
		}
		if !alone(r, was) {
			t.Fatalf("%v was made %v", was, r)
		}
		if want == mostSlabs {
			all++
		}
	}
	if all < 5 {
		t.Errorf("all slabs wait only %d times", all)
	}
}

// P15.4, R3: what is handed in stays as it is, and is not kept; what is told is memory of its own, list by list; if no try was made, too.
func TestTriesShareNoMemory(t *testing.T) {
	for _, from := range []string{"5 - 4 | f3 l1 r2 r r7 l | 2; 3; 4", "6 - 6 | f r r r1 r2 r3 | 1 2; 4 3; 5", "7 - - | l l f | ", "7 - - | r r1 r2 r3 r4 l | 1 2; 4; 3 0", "^ - - | r r1 r2 r3 r4 l | 1 2; 4; 3 0"} {
		holdMemory(t, "Try of "+from, read(from), func(r api.Reclaim) (api.Reclaim, []api.Entry) {
			got, given, _, e := epoch.Try(r)
			if e != api.OK {
				t.Fatalf("Try(%v): %d", r, e)
			}
			return got, given
		})
		plain := read(from)
		clear(plain.Pins.Slots)
		holdMemory(t, "Settle of "+from, plain, func(r api.Reclaim) (api.Reclaim, []api.Entry) {
			got, given, e := epoch.Settle(r)
			if e != api.OK {
				t.Fatalf("Settle(%v): %d", r, e)
			}
			return got, given
		})
	}
}
