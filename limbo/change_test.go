package limbo_test

import (
	"slices"
	"testing"

	"honeycomb/api"
	"honeycomb/limbo"
)

// hold is of what came of a limbo that may be, and has to be as the book says it.
func hold(t *testing.T, of string, l, was, got api.Limbo, e api.Errno, want book, no api.Errno) {
	t.Helper()
	wanted := api.Limbo{}
	if no == api.OK {
		wanted = want.limbo()
	}
	if e != no || !alone(got, wanted) || e != api.OK && !nothing(got) {
		t.Fatalf("%s of %v: %v, %d, not %v, %d", of, was, got, e, wanted, no)
	}
	if !alone(l, was) {
		t.Fatalf("%s of %v made it %v", of, was, l)
	}
	if e == api.OK && limbo.Check(got) != api.OK {
		t.Fatalf("%s of %v: %v, which may not be", of, was, got)
	}
}

func holdRetire(t *testing.T, l api.Limbo, one api.Entry) api.Errno {
	t.Helper()
	was, b := copied(l), bookOf(l)
	no := b.retireBy(one)
	got, e := limbo.Retire(l, one)
	hold(t, "Retire", l, was, got, e, b, no)
	return e
}

func holdAdvance(t *testing.T, l api.Limbo) api.Errno {
	t.Helper()
	was, b := copied(l), bookOf(l)
	no := b.advanceBy()
	got, e := limbo.Advance(l)
	hold(t, "Advance", l, was, got, e, b, no)
	return e
}

func holdTake(t *testing.T, l api.Limbo) api.Errno {
	t.Helper()
	was, b := copied(l), bookOf(l)
	want, no := b.takeBy()
	got, one, e := limbo.Take(l)
	hold(t, "Take", l, was, got, e, b, no)
	if one != want {
		t.Fatalf("Take of %v: %v, not %v", l, one, want)
	}
	return e
}

// P14.2 to P14.4: at the edges, and by chance.
func TestChanges(t *testing.T) {
	retires, advances, takes := map[api.Errno]int{}, map[api.Errno]int{}, map[api.Errno]int{}
	for _, l := range append(small(), wide()...) {
		for _, e := range append(append(noEntries(), pool...), bookOf(l).held()...) {
			retires[holdRetire(t, l, e)]++
			retires[holdRetire(t, l, api.Entry{Slab: e.Slab, Gen: 3})]++
		}
		advances[holdAdvance(t, l)]++
		takes[holdTake(t, l)]++
	}
	for _, n := range []int{
		retires[api.OK], retires[api.ErrArg], retires[api.ErrThere],
		advances[api.OK], advances[api.ErrReady], advances[api.ErrFull],
		takes[api.OK], takes[api.ErrNone],
	} {
		if n < 10 {
			t.Errorf("%v, %v, %v: one of these came only %d times", retires, advances, takes, n)
		}
	}
}

// P14.2: each slab that there is, of a limbo in which each second one waits, in each row.
func TestRetireOfEachSlab(t *testing.T) {
	for _, epoch := range edges {
		b := book{epoch: epoch}
		for slab := 0; slab < mostSlabs; slab += 2 {
			b.waits = append(b.waits, aged{api.Entry{Slab: slab, Gen: uint64(slab)}, uint64(2 - slab*3/mostSlabs)})
		}
		b.waits = slices.DeleteFunc(b.waits, func(a aged) bool { return a.age > epoch })
		l := b.limbo()
		for slab := -2; slab < mostSlabs+2; slab++ {
			for _, gen := range []uint64{0, uint64(slab), lastGen, lastGen + 1} {
				holdRetire(t, l, api.Entry{Slab: slab, Gen: gen})
			}
		}
	}
}

// P14.2: in numbers.
func TestRetireInNumbers(t *testing.T) {
	for _, c := range []struct {
		from, entry, to string
		e               api.Errno
	}{
		{"0: ; ; ", "0", "0: ; ; 0", api.OK},
		{"0: ; ; 3 4", "0.^", "0: ; ; 3 4 0.^", api.OK},
		{"1: ; 3 4; ", "127", "1: ; 3 4; 127", api.OK},
		{"2: 3; 4; 5", "2.9", "2: 3; 4; 5 2.9", api.OK},
		{"3: 3; 4; ", "2.9", "3: 3; 4; 2.9", api.OK},
		{"^-1: 3; 4; 5 6", "2", "^-1: 3; 4; 5 6 2", api.OK},
		{"^: 3; 4; 5 6", "2", "^: 3; 4; 5 6 2", api.OK},
		{"5: 3; 4; 5", "5", "", api.ErrThere},
		{"5: 3; 4; 5", "4", "", api.ErrThere},
		{"5: 3; 4; 5", "3", "", api.ErrThere},
		{"5: 3.1; 4.1; 5.1", "5.2", "", api.ErrThere}, // of a Slab, whatever its Gen
		{"5: 3.1; 4.1; 5.1", "3", "", api.ErrThere},
		{"5: 3; 4; 5 6 7 8 9", "9.7", "", api.ErrThere},
		{"5: 3; 4; 5 6 7 8 9", "7.7", "", api.ErrThere},
		{"5: 0; ; ", "0", "", api.ErrThere},
		{"5: ; ; 127", "127", "", api.ErrThere},
		{"5: ; ; ", "128", "", api.ErrArg},
		{"5: ; ; ", "-1", "", api.ErrArg},
		{"5: ; ; ", "0.^+1", "", api.ErrArg},
		{"5: ; ; 0", "0.^+1", "", api.ErrArg}, // ahead of ErrThere
		{"5: 127; ; ", "127.18446744073709551615", "", api.ErrArg},
	} {
		if got, e := limbo.Retire(read(c.from), entry(c.entry)); !alone(got, read(c.to)) || e != c.e {
			t.Errorf("Retire(%s, %s): %v, %d, not %s, %d", c.from, c.entry, got, e, c.to, c.e)
		}
	}
}

// P14.2: in which row it waits: by what is left of the Epoch, divided by 3.
func TestRetireRow(t *testing.T) {
	for epoch, row := range map[uint64]int{0: 0, 1: 1, 2: 2, 3: 0, 4: 1, 5: 2, 6: 0, 1 << 32: 1, lastEpoch - 2: 2, lastEpoch - 1: 0, lastEpoch: 1} {
		got, e := limbo.Retire(api.Limbo{Epoch: epoch}, entry("7.8"))
		want := api.Limbo{Epoch: epoch}
		want.Rows[row] = entries("7.8")
		if e != api.OK || !alone(got, want) {
			t.Errorf("at %d: %v, %d", epoch, got, e)
		}
	}
}

// P14.3: in numbers.
func TestAdvanceInNumbers(t *testing.T) {
	for _, c := range []struct {
		from, to string
		e        api.Errno
	}{
		{"0: ; ; ", "1: ; ; ", api.OK},
		{"0: ; ; 1 2", "1: ; 1 2; ", api.OK},
		{"1: ; 1 2; 3", "2: 1 2; 3; ", api.OK},
		{"2: 1 2; 3; ", "", api.ErrReady},
		{"2: 1; ; ", "", api.ErrReady},
		{"2: ; 3; 4", "3: 3; 4; ", api.OK},
		{"3: ; 3; 4", "4: 3; 4; ", api.OK},
		{"4: ; 3; 4", "5: 3; 4; ", api.OK},
		{"5: 1; ; ", "", api.ErrReady},
		{"3: 1; ; ", "", api.ErrReady},
		{"4: 1; 2; 3", "", api.ErrReady},
		{"^-1: ; 3; 4", "^: 3; 4; ", api.OK},
		{"^-1: 1; 3; 4", "", api.ErrReady},
		{"^: ; ; ", "", api.ErrFull},
		{"^: ; 3; 4", "", api.ErrFull},
		{"^: 1; 3; 4", "", api.ErrReady}, // ahead of ErrFull
		{"^: 1; ; ", "", api.ErrReady},
	} {
		if got, e := limbo.Advance(read(c.from)); !alone(got, read(c.to)) || e != c.e {
			t.Errorf("Advance(%s): %v, %d, not %s, %d", c.from, got, e, c.to, c.e)
		}
	}
}

// P14.4: in numbers.
func TestTakeInNumbers(t *testing.T) {
	for _, c := range []struct {
		from, to, first string
		e               api.Errno
	}{
		{"2: 1; ; ", "2: ; ; ", "1", api.OK},
		{"2: 0.^; 5; 6", "2: ; 5; 6", "0.^", api.OK},
		{"3: 127.7 1 2; 5; 6", "3: 1 2; 5; 6", "127.7", api.OK},
		{"4: 9 8; ; 6", "4: 8; ; 6", "9", api.OK},
		{"^: 9 8 7; 6; 5", "^: 8 7; 6; 5", "9", api.OK},
		{"^-1: 9; 6; 5", "^-1: ; 6; 5", "9", api.OK},
		{"0: ; ; ", "", "0", api.ErrNone},
		{"0: ; ; 1", "", "0", api.ErrNone},
		{"1: ; 1; 2", "", "0", api.ErrNone},
		{"2: ; 1; 2", "", "0", api.ErrNone},
		{"3: ; 1; ", "", "0", api.ErrNone},
		{"^: ; 1 2; 3", "", "0", api.ErrNone},
	} {
		if got, first, e := limbo.Take(read(c.from)); !alone(got, read(c.to)) || first != entry(c.first) || e != c.e {
			t.Errorf("Take(%s): %v, %v, %d, not %s, %s, %d", c.from, got, first, e, c.to, c.first, c.e)
		}
	}
}

// P14.4: all that is ready is taken in order, one by one, until nothing is.
func TestTakeOfAll(t *testing.T) {
	for _, l := range append(small(), wide()...) {
		ready := limbo.Ready(l)
		for n := range ready {
			next, one, e := limbo.Take(l)
			if e != api.OK || one != ready[n] || !slices.Equal(limbo.Ready(next), ready[n+1:]) {
				t.Fatalf("Take(%v): %v, %v, %d", l, next, one, e)
			}
			l = next
		}
		if none, one, e := limbo.Take(l); !nothing(none) || one != (api.Entry{}) || e != api.ErrNone {
			t.Fatalf("Take(%v): %v, %v, %d", l, none, one, e)
		}
	}
}

// P14.2 to P14.4: ErrLimbo goes ahead of all else.
func TestChangesOfNoLimbo(t *testing.T) {
	for _, l := range noLimbos() {
		was := copied(l)
		for _, e := range []api.Entry{{Slab: 50}, {Slab: 1}, {Slab: 127, Gen: lastGen}, {Slab: 128}, {Slab: -1}, {Slab: 4, Gen: 1 << 40}} {
			if got, no := limbo.Retire(l, e); !nothing(got) || no != 240 {
				t.Fatalf("Retire(%v, %v): %v, %d", l, e, got, no)
			}
		}
		if got, no := limbo.Advance(l); !nothing(got) || no != 240 {
			t.Fatalf("Advance(%v): %v, %d", l, got, no)
		}
		if got, one, no := limbo.Take(l); !nothing(got) || one != (api.Entry{}) || no != 240 {
			t.Fatalf("Take(%v): %v, %v, %d", l, got, one, no)
		}
		if !alone(l, was) {
			t.Fatalf("%v was made %v", was, l)
		}
	}
}

// P14.2 to P14.4, R3: what is handed in stays as it is, the room behind its rows' ends, too, and is not kept; what is told is memory of its own, row by row.
func TestChangesShareNoMemory(t *testing.T) {
	for name, change := range map[string]func(l api.Limbo) (api.Limbo, api.Errno){
		"Retire":  func(l api.Limbo) (api.Limbo, api.Errno) { return limbo.Retire(l, entry("77.7")) },
		"Advance": limbo.Advance,
		"Take": func(l api.Limbo) (api.Limbo, api.Errno) {
			got, _, e := limbo.Take(l)
			return got, e
		},
	} {
		for _, text := range []string{"5: 1 2 3; 4; 5 6", "6: 1; ; 5", "7: 1 2 3; 4 5 6; ", "5: ; 4; 5 6", "6: ; ; ", "7: ; 4 5 6; 7"} {
			plain := read(text)
			l, rooms := roomy(plain)
			was := copied(rooms)
			got, e := change(l)
			if !alone(l, plain) || !alone(rooms, was) {
				t.Fatalf("%s of %s made it %v", name, text, rooms)
			}
			if e != api.OK {
				continue
			}
			want := copied(got)
			again, _ := change(l)
			for n := range got.Rows { // row by row: none is behind the end of another one
				spoil(got.Rows[n])
				got.Rows[n] = want.Rows[n]
				if !alone(got, want) {
					t.Fatalf("%s of %s: the row %d is part of another one: %v", name, text, n, got)
				}
			}
			if !alone(rooms, was) || !alone(again, want) {
				t.Fatalf("%s of %s: what was told is what was handed in, or was told ahead of it: %v, %v", name, text, rooms, again)
			}
			spoil(rooms.Rows[:]...)
			if !alone(again, want) {
				t.Fatalf("%s of %s: what was told is what was handed in: %v, not %v", name, text, again, want)
			}
		}
	}
}
