package table_test

import (
	"slices"
	"testing"

	"honeycomb/api"
	"honeycomb/hash"
	"honeycomb/table"
)

func holdFind(t *testing.T, s sample, key uint64) (int, int, api.Errno) {
	t.Helper()
	want, wantMany, no := bookOf(s.seed, s.t).findBy(key)
	at, many, e := table.Find(s.seed, s.t, key)
	if at != want || many != wantMany || e != no {
		t.Fatalf("Find(%d, %v, %d): %d, %d, %d, not %d, %d, %d", s.seed, s.t, key, at, many, e, want, wantMany, no)
	}
	return at, many, e
}

func holdPlace(t *testing.T, s sample, key uint64) (int, api.Errno) {
	t.Helper()
	want, no := bookOf(s.seed, s.t).placeBy(key)
	at, e := table.Place(s.seed, s.t, key)
	if at != want || e != no {
		t.Fatalf("Place(%d, %v, %d): %d, %d, not %d, %d", s.seed, s.t, key, at, e, want, no)
	}
	return at, e
}

// P17.2: keys of all slots, full or not, and others.
func TestFind(t *testing.T) {
	c := chance(20)
	second, behind, none := 0, map[int]int{}, 0
	for _, s := range many() {
		for _, key := range keysFor(s, &c) {
			at, many, e := holdFind(t, s, key)
			if e != api.OK {
				none++
				continue
			}
			behind[many]++
			if groupsBy(hashBy(s.seed, key))[0] != at/8 {
				second++
			}
		}
	}
	if second < 1000 || none < 1000 || behind[1] < 1000 || behind[4] < 500 || behind[8] < 5 {
		t.Errorf("%d in a second group, %d not there, behind so many others: %v", second, none, behind)
	}
}

// P17.2, P17.3, P17.5, R2: ErrBad ahead of all else; or nothing.
func TestLooksOfNone(t *testing.T) {
	c := chance(21)
	for why, l := range none() {
		for n, s := range l {
			if n%5 > 0 && len(l) > 100 {
				continue
			}
			if l := table.Pairs(s.seed, s.t); len(l) > 0 {
				t.Fatalf("Pairs(%d, %v), in spite of %s: %v", s.seed, s.t, why, l)
			}
			for _, key := range []uint64{s.t.Keys[n%16], s.t.Keys[n/16%16], c.word()} {
				if at, many, e := table.Find(s.seed, s.t, key); at != 0 || many != 0 || e != 270 {
					t.Fatalf("Find(%d, %v, %d), in spite of %s: %d, %d, %d", s.seed, s.t, key, why, at, many, e)
				}
				if at, e := table.Place(s.seed, s.t, key); at != 0 || e != 270 {
					t.Fatalf("Place(%d, %v, %d), in spite of %s: %d, %d", s.seed, s.t, key, why, at, e)
				}
			}
		}
	}
}

// here is a table by the seed 5, of Depth 0, in which the keys of these hashes stand, in their order, from the slot 0 on; 0 is of a slot that is empty, 1 of one that is deleted. The value of each is its hash and 1.
func here(hashes ...uint64) api.Table {
	b := newBook(5, 6, 0, 0)
	for n, h := range hashes {
		switch h {
		case 0:
		case 1:
			b.slots[n].b = isDeleted
		default:
			b.slots[n] = slot{byte(h % 128), by(h), h + 1}
		}
	}
	return b.counted().table()
}

// Hashes whose row begins with the group 0: their H2 is 3, but for one.
const (
	a1 = 0x103 + iota<<8
	a2
	a3
	a4
	a5
	a6
	a7
	a8
	a9
	a10
	a11
	other = 0x104
)

// Hashes whose row begins with the group 1, of the same H2.
const (
	z1 = 0x183 + iota<<8
	z2
	z3
	z4
	z5
	z6
	z7
	z8
	z9
)

// P17.2: in numbers.
func TestFindInNumbers(t *testing.T) {
	wide := here(a1, 0, a2, other, 0, a3, 0, 0, 0, z1, 0, z2)
	full := here(a1, a2, a3, a4, a5, a6, a7, other, a8, z1, 0, z2, 0, a9)
	gone := here(a1, 1, a3, 1, 1, 1, 1, 1, a8, z1, 0, z2, 0, a9)
	back := here(a1, z1, z2, a2, 0, 0, 0, 0, z3, z4, z5, z6, z7, z8, 1, z9)
	for _, c := range []struct {
		name     string
		t        api.Table
		hash     uint64
		at, many int
		e        api.Errno
	}{
		{"wide", wide, a1, 0, 1, api.OK},
		{"wide", wide, a2, 2, 2, api.OK},
		{"wide", wide, a3, 5, 3, api.OK}, // the slot 3 has another H2
		{"wide", wide, other, 3, 1, api.OK},
		{"wide", wide, z1, 9, 1, api.OK},
		{"wide", wide, z2, 11, 2, api.OK},
		{"wide", wide, a4, 0, 0, api.ErrNone},
		{"wide", wide, z3, 0, 0, api.ErrNone},
		{"wide", wide, 0, 0, 0, api.ErrNone},
		{"full", full, a1, 0, 1, api.OK},
		{"full", full, a7, 6, 7, api.OK},
		{"full", full, other, 7, 1, api.OK},
		{"full", full, a8, 8, 8, api.OK}, // behind the seven of the group 0
		{"full", full, a9, 13, 11, api.OK},
		{"full", full, z1, 9, 2, api.OK},
		{"full", full, z2, 11, 3, api.OK},
		{"full", full, a10, 0, 0, api.ErrNone},
		{"full", full, z3, 0, 0, api.ErrNone},
		{"full", full, 0x105, 0, 0, api.ErrNone},
		{"gone", gone, a3, 2, 2, api.OK},
		{"gone", gone, a8, 8, 3, api.OK},
		{"gone", gone, a9, 13, 6, api.OK},
		{"gone", gone, a2, 0, 0, api.ErrNone},
		{"back", back, z3, 8, 1, api.OK},
		{"back", back, z9, 15, 7, api.OK},
		{"back", back, z1, 1, 9, api.OK}, // behind seven of the group 1, and the slot 0
		{"back", back, z2, 2, 10, api.OK},
		{"back", back, a1, 0, 1, api.OK},
		{"back", back, a2, 3, 4, api.OK},
		{"back", back, a3, 0, 0, api.ErrNone},
		{"new", here(), a1, 0, 0, api.ErrNone},
	} {
		if e := table.Check(5, c.t); e != api.OK {
			t.Fatalf("%s may not be: %d", c.name, e)
		}
		if at, many, e := table.Find(5, c.t, by(c.hash)); at != c.at || many != c.many || e != c.e {
			t.Errorf("%s: Find(%#x): %d, %d, %d, not %d, %d, %d", c.name, c.hash, at, many, e, c.at, c.many, c.e)
		}
	}
}

// P17.2: keys that do not go to a table are just not there; those that slots have that are not full, too.
func TestFindElsewhere(t *testing.T) {
	for depth := 1; depth <= mostDepth; depth++ {
		b := bookOf(5, here(a1, a2, a3))
		b.depth = depth
		for bit := 64 - depth; bit < 64; bit++ {
			if at, many, e := table.Find(5, b.table(), by(a2^1<<bit)); at != 0 || many != 0 || e != api.ErrNone {
				t.Errorf("Find(%#x): %d, %d, %d", uint64(a2)^1<<bit, at, many, e)
			}
		}
	}
	stale := here(a1, 0, a3)
	stale.Keys[1] = by(a2)
	if at, many, e := table.Find(5, stale, by(a2)); at != 0 || many != 0 || e != api.ErrNone {
		t.Errorf("Find of an empty slot's key: %d, %d, %d", at, many, e)
	}
}

// P17.3: keys of all slots, full or not, and others.
func TestPlace(t *testing.T) {
	c := chance(22)
	met := map[api.Errno]int{}
	empty, deleted, second := 0, 0, 0
	for _, s := range many() {
		for _, key := range keysFor(s, &c) {
			at, e := holdPlace(t, s, key)
			if met[e]++; e != api.OK {
				continue
			}
			if bookOf(s.seed, s.t).slots[at].b == isEmpty {
				empty++
			} else {
				deleted++
			}
			if groupsBy(hashBy(s.seed, key))[0] != at/8 {
				second++
			}
		}
	}
	for _, e := range []api.Errno{api.OK, api.ErrArg, api.ErrThere, api.ErrFull} {
		if met[e] < 1000 {
			t.Errorf("%d is met %d times", e, met[e])
		}
	}
	if empty < 1000 || deleted < 1000 || second < 100 {
		t.Errorf("%d at an empty slot, %d at a deleted one, %d in a second group", empty, deleted, second)
	}
}

// P17.3: in numbers.
func TestPlaceInNumbers(t *testing.T) {
	for _, c := range []struct {
		name string
		t    api.Table
		hash uint64
		at   int
		e    api.Errno
	}{
		{"new", here(), a1, 0, api.OK},
		{"new", here(), z1, 8, api.OK},
		{"one", here(a1), a2, 1, api.OK},
		{"one", here(a1), a1, 0, api.ErrThere},
		{"one", here(a1), z1, 8, api.OK},
		{"the least free one", here(a1, 0, a3, 1), a4, 1, api.OK},
		{"the least free one", here(a1, 1, a3, 0), a4, 1, api.OK},
		{"the first group is full", here(a1, a2, a3, a4, a5, a6, a7, a8), a9, 8, api.OK},
		{"the first group is full", here(a1, a2, a3, a4, a5, a6, a7, a8), a8, 0, api.ErrThere},
		{"the first group is full", here(a1, a2, a3, a4, a5, a6, a7, a8, z1, 1), a9, 9, api.OK},
		{"it is of the group 1", here(0, 0, 0, 0, 0, 0, 0, 0, z1, z2, z3, z4, z5, z6, z7, z8), z9, 0, api.OK},
		{"a deleted one, Can 0", here(a1, a2, a3, a4, 1, a6, 1, a8, z1, z2, z3, z4, z5, z6), a9, 4, api.OK},
		{"an empty one, Can 0", here(a1, a2, a3, a4, 1, a6, 1, a8, z1, z2, z3, z4, z5, z6), z7, 0, api.ErrFull},
		{"a key that it has, Can 0", here(a1, a2, a3, a4, 1, a6, 1, a8, z1, z2, z3, z4, z5, z6), z6, 0, api.ErrThere},
		{"no slot of the first group, an empty one of the second, Can 0", here(a1, a2, a3, a4, a5, a6, a7, a8, z1, z2, z3, z4, z5, z6), a9, 0, api.ErrFull},
		{"no slot of the first group, an empty one of the second, Can 1", here(a1, a2, a3, a4, a5, a6, a7, a8, z1, z2, z3, z4, z5), a9, 13, api.OK},
		{"no slot of the first group, a deleted one of the second, Can 0", here(a1, a2, a3, a4, a5, a6, a7, a8, z1, 1, z3, z4, z5, z6), a9, 9, api.OK},
		{"a deleted one ahead of an empty one, Can 0", here(a1, a2, a3, a4, a5, a6, a7, 1, z1, 1, 0, z4, z5, z6, z7), z8, 9, api.OK},
		{"a deleted one behind an empty one, Can 0", here(a1, a2, a3, a4, a5, a6, a7, 1, z1, 0, 1, z4, z5, z6, z7), z8, 0, api.ErrFull},
		{"a deleted one behind an empty one, Can 1", here(a1, a2, a3, a4, a5, a6, a7, 1, z1, 0, 1, z4, z5, z6), z8, 9, api.OK},
		{"all are deleted", here(1, 1, 1, 1, 1, 1, 1, 1, 1, 1, 1, 1, 1, 1), a1, 0, api.OK},
		{"all are deleted", here(1, 1, 1, 1, 1, 1, 1, 1, 0, 1, 1, 1, 1, 1, 1), z1, 0, api.ErrFull},
	} {
		if e := table.Check(5, c.t); e != api.OK {
			t.Fatalf("%s may not be: %d", c.name, e)
		}
		if at, e := table.Place(5, c.t, by(c.hash)); at != c.at || e != c.e {
			t.Errorf("%s: Place(%#x): %d, %d, not %d, %d", c.name, c.hash, at, e, c.at, c.e)
		}
	}
}

// P17.3: ErrArg of all hashes that do not go to a table, ahead of ErrFull.
func TestPlaceElsewhere(t *testing.T) {
	const far = 0xff0103 // of which no turned bit makes a hash of these
	for _, at := range []api.Table{here(a1), here(a1, a2, a3, a4, a5, a6, a7, a8, z1, z2, z3, z4, z5, z6)} {
		for depth := range mostDepth + 1 {
			at.Depth = depth
			for bit := range 64 {
				want := api.Errno(api.OK)
				if bit >= 64-depth {
					want = api.ErrArg
				} else if at.Can == 0 {
					want = api.ErrFull
				}
				if _, e := table.Place(5, at, by(far^1<<bit)); e != want {
					t.Fatalf("Place(%#x) of Depth %d: %d, not %d", uint64(far)^1<<bit, depth, e, want)
				}
			}
		}
	}
	if _, e := table.Place(5, api.Table{Depth: 1, Prefix: 1, Can: 14, Ctrl: [2]uint64{0x8080808080808080, 0x8080808080808080}}, 5); e != api.ErrArg {
		t.Errorf("Place of 5: %d", e)
	}
}

// P17.5
func TestPairs(t *testing.T) {
	for _, s := range many() {
		want := bookOf(s.seed, s.t).pairsBy()
		if l := table.Pairs(s.seed, s.t); !slices.Equal(l, want) || len(l) != s.t.Live {
			t.Fatalf("Pairs(%d, %v): %v, not %v", s.seed, s.t, l, want)
		}
	}
}

// P17.5: in numbers.
func TestPairsInNumbers(t *testing.T) {
	pairs := func(hashes ...uint64) (l []api.Pair) {
		for _, h := range hashes {
			l = append(l, api.Pair{Key: hash.Key(5, h), Value: h + 1})
		}
		return l
	}
	for name, c := range map[string]struct {
		t    api.Table
		want []api.Pair
	}{
		"new":     {here(), nil},
		"deleted": {here(1, 0, 1, 1), nil},
		"one":     {here(0, a2), pairs(a2)},
		"some":    {here(a3, 0, a1, 1, 0, 0, 0, a2, 0, z2, 1, z1), pairs(a3, a1, a2, z2, z1)},
		"last":    {here(a1, 0, 0, 0, 0, 0, 0, 0, 0, 0, 0, 0, 0, 0, 0, z1), pairs(a1, z1)},
		"full":    {here(a1, a2, a3, a4, a5, a6, a7, 0, z1, z2, z3, z4, z5, z6, 0, z7), pairs(a1, a2, a3, a4, a5, a6, a7, z1, z2, z3, z4, z5, z6, z7)},
	} {
		if l := table.Pairs(5, c.t); !slices.Equal(l, c.want) {
			t.Errorf("%s: %v, not %v", name, l, c.want)
		}
	}
}

// P17.5, R3: what is told is new each time.
func TestPairsShareNoMemory(t *testing.T) {
	for _, s := range some() {
		l := table.Pairs(s.seed, s.t)
		clear(l[:cap(l)])
		if again := table.Pairs(s.seed, s.t); !slices.Equal(again, bookOf(s.seed, s.t).pairsBy()) {
			t.Fatalf("Pairs(%d, %v), again: %v", s.seed, s.t, again)
		}
	}
}
