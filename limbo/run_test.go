package limbo_test

import (
	"math"
	"slices"
	"testing"

	"honeycomb/api"
	"honeycomb/limbo"
)

// holdRun is of a limbo that may be.
func holdRun(t *testing.T, l api.Limbo, steps []api.Entry) (int, api.Errno) {
	t.Helper()
	was, wasSteps := copied(l), slices.Clone(steps)
	want, wantTaken, no := runBy(l, steps)
	got, taken, e := limbo.Run(l, steps...)
	if e != no || !alone(got, want) || !slices.Equal(taken, wantTaken) || e != api.OK && (!nothing(got) || len(taken) > 0) {
		t.Fatalf("Run(%v, %v): %v, %v, %d, not %v, %v, %d", l, steps, got, taken, e, want, wantTaken, no)
	}
	if !alone(l, was) || !slices.Equal(steps, wasSteps) {
		t.Fatalf("Run(%v, %v) made them %v, %v", was, wasSteps, l, steps)
	}
	if e == api.OK && limbo.Check(got) != api.OK {
		t.Fatalf("Run(%v, %v): %v, which may not be", l, steps, got)
	}
	return len(taken), e
}

// P14.6: rows of none, one, two, and three steps, at the edges.
func TestRunOfFew(t *testing.T) {
	steps := append(entries("on 0 1.5 127.^ 30 128 -128.^+1 31.^+1"), api.Entry{Slab: math.MinInt, Gen: math.MaxUint64})
	for _, l := range append(small(), wide()...) {
		holdRun(t, l, nil)
		for _, one := range steps {
			holdRun(t, l, []api.Entry{one})
			for _, other := range steps {
				holdRun(t, l, []api.Entry{one, other})
				holdRun(t, l, []api.Entry{one, other, {Slab: -1}})
			}
		}
	}
}

// step is one that can be done, more often than not.
func (c *chance) step(wrong int) api.Entry {
	switch c.below(wrong) {
	case 0:
		return api.Entry{Slab: one(c, noSlabs), Gen: c.word() >> 24}
	case 1:
		return api.Entry{Slab: c.below(mostSlabs), Gen: one(c, noGens)}
	}
	if c.below(2) == 0 {
		return api.Entry{Slab: -1 - c.below(5), Gen: c.word() >> c.below(64)}
	}
	return api.Entry{Slab: c.below(mostSlabs), Gen: c.word() >> (24 + c.below(40))}
}

// P14.6: long rows, by chance.
func TestRunByChance(t *testing.T) {
	c := chance(31)
	met, takes := map[api.Errno]int{}, map[int]int{}
	for range 5 {
		for _, l := range append(small(), wide()...) {
			var steps []api.Entry
			for range c.below(30) {
				steps = append(steps, c.step(100))
			}
			taken, e := holdRun(t, l, steps)
			met[e]++
			takes[taken]++
		}
	}
	if met[api.OK] < 500 || met[api.ErrArg] < 50 || met[api.ErrThere] < 50 || met[api.ErrFull] < 50 || len(takes) < 15 {
		t.Errorf("errors %v, taken %v", met, takes)
	}
}

// P14.6: in numbers.
func TestRunInNumbers(t *testing.T) {
	for _, c := range []struct {
		from, steps, to, taken string
		e                      api.Errno
	}{
		{"0: ; ; ", "", "0: ; ; ", "", api.OK},
		{"5: 1; 2; 3", "", "5: 1; 2; 3", "", api.OK}, // what is ready is not taken, if the epoch does not go on
		{"5: 1; 2; 3", "4 6.^", "5: 1; 2; 3 4 6.^", "", api.OK},
		{"5: 1; 2; 3", "on", "6: 2; 3; ", "1", api.OK},
		{"5: 9 8.7 1; 2; 3", "on", "6: 2; 3; ", "9 8.7 1", api.OK},
		{"5: ; 2; 3", "on", "6: 2; 3; ", "", api.OK},
		{"5: ; ; ", "on", "6: ; ; ", "", api.OK},
		{"5: 1; 2; 3", "on on", "7: 3; ; ", "1 2", api.OK},
		{"5: 1; 2; 3", "on on on", "8: ; ; ", "1 2 3", api.OK},
		{"5: 9 8; 7 6; 5 4", "on on on on", "9: ; ; ", "9 8 7 6 5 4", api.OK},
		{"5: 9 8; 7 6; 5 4", "on 8 9 on 7", "7: 5 4; 8 9; 7", "9 8 7 6", api.OK}, // what was taken may be retired again
		{"0: ; ; ", "1 on 2 on 3", "2: 1; 2; 3", "", api.OK},
		{"0: ; ; ", "1 on 2 on 3 on", "3: 2; 3; ", "1", api.OK},
		{"0: ; ; ", "3 2 1 on on on", "3: ; ; ", "3 2 1", api.OK},
		{"0: ; ; ", "-1 -128.^+1 -5.18446744073709551615", "3: ; ; ", "", api.OK},
		{"^-1: 1; 2; 3", "on", "^: 2; 3; ", "1", api.OK},
		{"^-1: 1; 2; 3", "4 on 5", "^: 2; 3 4; 5", "1", api.OK},
		{"^: 1; 2; 3", "4", "^: 1; 2; 3 4", "", api.OK},
		{"^: 1; 2; 3", "on", "", "", api.ErrFull}, // what is ready does not stand in the way
		{"^: ; ; ", "on", "", "", api.ErrFull},
		{"^-1: 1; 2; 3", "on 4 on", "", "", api.ErrFull},
		{"^: ; ; ", "4 on 128", "", "", api.ErrFull},
		{"^: ; ; ", "128 on", "", "", api.ErrArg},
		{"5: 1; 2; 3", "128 on", "", "", api.ErrArg},
		{"5: 1; 2; 3", "on 128 on", "", "", api.ErrArg},
		{"5: 1; 2; 3", "on on 128", "", "", api.ErrArg},
		{"5: 1; 2; 3", "on on 0.^+1", "", "", api.ErrArg},
		{"5: 1; 2; 3", "1", "", "", api.ErrThere},
		{"5: 1; 2; 3", "2 on on", "", "", api.ErrThere},
		{"5: 1; 2; 3", "on 3 on", "", "", api.ErrThere},
		{"5: 1; 2; 3", "on 2", "", "", api.ErrThere}, // what is ready waits yet
		{"5: 1; 2; 3", "4 4", "", "", api.ErrThere},
		{"5: 1; 2; 3", "4.1 on 4.2", "", "", api.ErrThere},
		{"5: 1; 2; 3", "3 128", "", "", api.ErrThere}, // of the first step that has one
		{"5: 1; 2; 3", "128 3", "", "", api.ErrArg},
		{"5: 1; 2; 3", "1.^+1", "", "", api.ErrArg},
	} {
		got, taken, e := limbo.Run(read(c.from), entries(c.steps)...)
		if !alone(got, read(c.to)) || !slices.Equal(taken, entries(c.taken)) || e != c.e {
			t.Errorf("Run(%s, %s): %v, %v, %d, not %s, %s, %d", c.from, c.steps, got, taken, e, c.to, c.taken, c.e)
		}
	}
}

// P14.6: an error at each place of a row.
func TestRunOfEachPlace(t *testing.T) {
	row := entries("20 on 21 on 22 23.5 on on 20 21 on on on")
	for place := range len(row) + 1 {
		for _, e := range noEntries() {
			if e.Slab < 0 {
				continue
			}
			steps := slices.Insert(slices.Clone(row), place, e)
			if got, taken, no := limbo.Run(read("5: 1 2; 3; 4"), steps...); !nothing(got) || len(taken) > 0 || no != api.ErrArg {
				t.Errorf("%v at %d: %v, %v, %d", e, place, got, taken, no)
			}
		}
		steps := slices.Insert(slices.Clone(row), place, entries("30 30.7")...)
		if got, taken, no := limbo.Run(read("5: 1 2; 3; 4"), steps...); !nothing(got) || len(taken) > 0 || no != api.ErrThere {
			t.Errorf("twice at %d: %v, %v, %d", place, got, taken, no)
		}
		ons := 0
		for _, step := range row[:place] {
			if step.Slab < 0 {
				ons++
			}
		}
		last := api.Limbo{Epoch: lastEpoch - uint64(ons)}
		steps = slices.Insert(slices.Clone(row), place, api.Entry{Slab: -7})
		if got, taken, no := limbo.Run(last, steps...); !nothing(got) || len(taken) > 0 || no != api.ErrFull {
			t.Errorf("no next epoch at %d: %v, %v, %d", place, got, taken, no)
		}
	}
}

// P14.6, P14.2 to P14.4: a row comes to what its steps come to, one by one.
func TestRunIsOneByOne(t *testing.T) {
	c := chance(5)
	for _, l := range append(small(), wide()...) {
		var steps []api.Entry
		for range 15 {
			steps = append(steps, c.step(1000))
		}
		want, wantTaken, no := copied(l), []api.Entry(nil), api.OK
		for _, step := range steps {
			if step.Slab >= 0 {
				want, no = limbo.Retire(want, step)
			} else {
				for len(limbo.Ready(want)) > 0 {
					next, one, _ := limbo.Take(want)
					want, wantTaken = next, append(wantTaken, one)
				}
				want, no = limbo.Advance(want)
			}
			if no != api.OK {
				wantTaken = nil
				break
			}
		}
		if got, taken, e := limbo.Run(l, steps...); !alone(got, want) || !slices.Equal(taken, wantTaken) || e != no {
			t.Fatalf("Run(%v, %v): %v, %v, %d, not %v, %v, %d", l, steps, got, taken, e, want, wantTaken, no)
		}
	}
}

// P14.6: a long row; all slabs at one time.
func TestRunOfMany(t *testing.T) {
	one := entries("5 6 on 7 on 8.3 on on on")
	l, taken, e := limbo.Run(limbo.New(), slices.Repeat(one, 50000)...)
	if want := slices.Repeat(entries("5 6 7 8.3"), 50000); !alone(l, api.Limbo{Epoch: 250000}) || !slices.Equal(taken, want) || e != api.OK {
		t.Errorf("Run: %v, %d taken, %d", l, len(taken), e)
	}
	c := chance(9)
	full := c.slabs()
	l, taken, e = limbo.Run(limbo.New(), full...)
	if !alone(l, api.Limbo{Rows: [3][]api.Entry{full, nil, nil}}) || len(taken) > 0 || e != api.OK {
		t.Errorf("Run of all slabs: %v, %v, %d", l, taken, e)
	}
	l, taken, e = limbo.Run(l, entries("on on on")...)
	if !alone(l, api.Limbo{Epoch: 3}) || !slices.Equal(taken, full) || e != api.OK {
		t.Errorf("Run, on and on: %v, %v, %d", l, taken, e)
	}
}

// P14.6: ErrLimbo goes ahead of all else, of the empty row, too.
func TestRunOfNoLimbo(t *testing.T) {
	for _, l := range noLimbos() {
		was := copied(l)
		for _, text := range []string{"", "on", "50", "50 on on", "128", "0.^+1 on", "on -5 50 50"} {
			if got, taken, e := limbo.Run(l, entries(text)...); !nothing(got) || len(taken) > 0 || e != 240 {
				t.Fatalf("Run(%v, %s): %v, %v, %d", l, text, got, taken, e)
			}
		}
		if !alone(l, was) {
			t.Fatalf("%v was made %v", was, l)
		}
	}
}

// P14.6, R3: what is handed in stays as it is, the room behind its end, too, and is not kept; what is told is memory of its own, row by row, of the empty row, too.
func TestRunSharesNoMemory(t *testing.T) {
	for _, from := range []string{"5: 1 2 3; 4 5; 6", "6: 1; ; 2", "7: ; ; "} {
		for _, text := range []string{"", "50", "on", "50 51 on 52", "50 on 51 on 52 on 53"} {
			plain, room := read(from), entries("98 99")
			l, rooms := roomy(plain)
			was, steps := copied(rooms), append(entries(text), room...)
			wasSteps := slices.Clone(steps)
			row := steps[:len(steps)-len(room)]
			got, taken, e := limbo.Run(l, row...)
			want, wantTaken, _ := runBy(plain, row)
			if e != api.OK || !alone(got, want) || !slices.Equal(taken, wantTaken) || !alone(l, plain) {
				t.Fatalf("%s, %s: %v, %v, %d, %v", from, text, got, taken, e, l)
			}
			again, takenAgain, _ := limbo.Run(l, row...)
			for n := range got.Rows {
				spoil(got.Rows[n])
				got.Rows[n] = want.Rows[n]
				if !alone(got, want) || !slices.Equal(taken, wantTaken) {
					t.Fatalf("%s, %s: the row %d is part of what else was told: %v, %v", from, text, n, got, taken)
				}
			}
			spoil(taken)
			if !alone(rooms, was) || !slices.Equal(steps, wasSteps) || !alone(again, want) || !slices.Equal(takenAgain, wantTaken) {
				t.Fatalf("%s, %s: what was told is what was handed in, or was told ahead of it: %v, %v, %v, %v", from, text, rooms, steps, again, takenAgain)
			}
			spoil(append(rooms.Rows[:], steps)...)
			if !alone(again, want) || !slices.Equal(takenAgain, wantTaken) {
				t.Fatalf("%s, %s: what was told is what was handed in: %v, %v", from, text, again, takenAgain)
			}
		}
	}
}
