package table_test

import (
	"slices"
	"testing"

	"honeycomb/api"
	"honeycomb/table"
)

// sortedPairs are what tables have, by keys.
func sortedPairs(seed uint64, tables ...api.Table) (l []api.Pair) {
	for _, t := range tables {
		l = append(l, table.Pairs(seed, t)...)
	}
	slices.SortFunc(l, func(a, b api.Pair) int {
		if a.Key < b.Key {
			return -1
		}
		return 1
	})
	return l
}

// P17.5, P17.6
func TestAnew(t *testing.T) {
	for _, s := range many() {
		want, _ := bookOf(s.seed, s.t).anewBy()
		got, e := table.Anew(s.seed, s.t)
		if got != want.table() || e != api.OK || !mayBe(s.seed, got, e) {
			t.Fatalf("Anew(%d, %v): %v, %d, not %v", s.seed, s.t, got, e, want)
		}
		if got.Live != s.t.Live || got.Can != mostFill-got.Live || !slices.Equal(sortedPairs(s.seed, got), sortedPairs(s.seed, s.t)) {
			t.Fatalf("Anew(%d, %v): %v, which has not the same", s.seed, s.t, got)
		}
	}
}

// P17.6: a table of few keys, laid anew, can be put as many as MaxFill less these, whatever these are, and no more.
func TestAnewHasRoom(t *testing.T) {
	c := chance(26)
	met := map[int]int{}
	for n, s := range many() {
		if s.t.Live >= leastSplit || n%3 > 0 {
			continue
		}
		met[s.t.Live]++
		got, e := table.Anew(s.seed, s.t)
		b := bookOf(s.seed, s.t)
		for range mostFill - s.t.Live {
			if got, _, e = table.Put(s.seed, got, c.going(b), 7); e != api.OK {
				t.Fatalf("Anew(%d, %v), and Put: %v, %d", s.seed, s.t, got, e)
			}
		}
		if _, _, e := table.Put(s.seed, got, c.going(b), 7); e != api.ErrFull {
			t.Fatalf("Put of one more to %v: %d", got, e)
		}
	}
	for n := range leastSplit {
		if met[n] < 10 {
			t.Errorf("%d tables of %d keys", met[n], n)
		}
	}
}

// P17.5: in numbers.
func TestAnewInNumbers(t *testing.T) {
	was := here(a1, 1, a3, 1, a5, 1, 1, a8, z2, 1, a9, 0, z3)
	was.Count, was.Depth = 77, 3
	was.Keys[1], was.Values[1], was.Values[15] = by(a2), 9, 9
	want := here(a1, a3, a5, a8, a9, 0, 0, 0, z2, z3)
	want.Count, want.Depth = 77, 3
	if got, e := table.Anew(5, was); got != want || e != api.OK {
		t.Errorf("Anew: %v, %d, not %v", got, e, want)
	}
	if got, e := table.Anew(5, want); got != want || e != api.OK {
		t.Errorf("Anew again: %v, %d", got, e)
	}
	gone := here(1, 1, 1, 1, 1, 1, 1, 1, 1, 1, 1, 1, 1, 1)
	if got, e := table.Anew(5, gone); got != here() || e != api.OK {
		t.Errorf("Anew of a table without keys: %v, %d", got, e)
	}
	// The keys of the group 1 come behind those of the group 0, also those that are at home there.
	back := here(a1, z1, z2, z3, 0, 0, 0, 0, z4, z5, z6, z7, z8, 1, 1, z9)
	if got, e := table.Anew(5, back); got != here(a1, z9, 0, 0, 0, 0, 0, 0, z1, z2, z3, z4, z5, z6, z7, z8) || e != api.OK {
		t.Errorf("Anew of keys in the second group of their row: %v, %d", got, e)
	}
}

// P17.5, P17.6: of each Depth; ErrDeep just of MaxDepth.
func TestHalves(t *testing.T) {
	met := map[int]int{}
	for _, s := range many() {
		want, no := bookOf(s.seed, s.t).halvesBy()
		got, e := table.Halves(s.seed, s.t)
		if e != no || got != [2]api.Table{want[0].orNone(no), want[1].orNone(no)} {
			t.Fatalf("Halves(%d, %v): %v, %d, not %v, %d", s.seed, s.t, got, e, want, no)
		}
		if met[s.t.Depth]++; (s.t.Depth == mostDepth) != (e == api.ErrDeep) {
			t.Fatalf("Halves(%d, %v): %d", s.seed, s.t, e)
		}
		if e != api.OK {
			continue
		}
		if !slices.Equal(sortedPairs(s.seed, got[:]...), sortedPairs(s.seed, s.t)) || got[0].Live+got[1].Live != s.t.Live {
			t.Fatalf("Halves(%d, %v): %v, which have not what it has", s.seed, s.t, got)
		}
		for n, half := range got {
			if !mayBe(s.seed, half, e) || half.Depth != s.t.Depth+1 || half.Prefix != 2*s.t.Prefix+uint64(n) || half.Count != 0 {
				t.Fatalf("Halves(%d, %v): %v", s.seed, s.t, got)
			}
		}
	}
	for depth := range mostDepth + 1 {
		if met[depth] < 500 {
			t.Errorf("%d tables of Depth %d", met[depth], depth)
		}
	}
}

// P17.5: in numbers.
func TestHalvesInNumbers(t *testing.T) {
	const low, high, top = 1 << 60, 1 << 61, 1 << 62 // the bits of which 4, 3 and 2 bits make a prefix
	was := here(a1, a2|high, a3, 1, 1, 1, 1, 1, a8|high, z1, z2|high)
	was.Count, was.Depth = 77, 2
	for _, c := range []struct {
		name     string
		t        api.Table
		one, two api.Table
	}{
		{"some", was, here(a1, a3, 0, 0, 0, 0, 0, 0, z1), here(a2|high, a8|high, 0, 0, 0, 0, 0, 0, z2|high)},
		{"none", api.Table{Depth: 2, Can: 14, Ctrl: [2]uint64{0x8080808080808080, 0x8080808080808080}}, here(), here()},
	} {
		c.one.Count, c.one.Depth, c.one.Prefix = 0, 3, 0
		c.two.Count, c.two.Depth, c.two.Prefix = 0, 3, 1
		if got, e := table.Halves(5, c.t); got != [2]api.Table{c.one, c.two} || e != api.OK {
			t.Errorf("%s: %v, %d, not %v, %v", c.name, got, e, c.one, c.two)
		}
	}
	// Of Depth 4, the last one that can be halved; all keys go to one half.
	deep := here(top|high|1<<59|a1, top|high|1<<59|a2)
	deep.Depth, deep.Prefix = 4, 6
	got, e := table.Halves(5, deep)
	one, two := here(), deep
	one.Count, one.Depth, one.Prefix = 0, 5, 12
	two.Count, two.Depth, two.Prefix = 0, 5, 13
	if got != [2]api.Table{one, two} || e != api.OK {
		t.Errorf("Halves of Depth 4: %v, %d", got, e)
	}
	if none, e := table.Halves(5, two); none != [2]api.Table{} || e != api.ErrDeep {
		t.Errorf("Halves of Depth 5: %v, %d", none, e)
	}
	two.Live++
	if none, e := table.Halves(5, two); none != [2]api.Table{} || e != 270 {
		t.Errorf("Halves of Depth 5, and a wrong Live: %v, %d", none, e)
	}
	// Of Depth 0.
	flat := here(1<<63|a1, a2, 1<<63|a3)
	got, e = table.Halves(5, flat)
	one, two = here(a2), here(1<<63|a1, 1<<63|a3)
	one.Count, one.Depth, two.Count, two.Depth, two.Prefix = 0, 1, 0, 1, 1
	if got != [2]api.Table{one, two} || e != api.OK {
		t.Errorf("Halves of Depth 0: %v, %d", got, e)
	}
}

// P17.5, R2: ErrBad ahead of all else, also of ErrDeep, of no pairs, and of those that can't be put.
func TestLaidOfNone(t *testing.T) {
	deep := 0
	for why, l := range none() {
		for n, s := range l {
			if n%5 > 0 && len(l) > 100 {
				continue
			}
			if s.t.Depth == mostDepth {
				deep++
			}
			if got, e := table.Anew(s.seed, s.t); got != (api.Table{}) || e != 270 {
				t.Fatalf("Anew(%d, %v), in spite of %s: %v, %d", s.seed, s.t, why, got, e)
			}
			if got, e := table.Halves(s.seed, s.t); got != [2]api.Table{} || e != 270 {
				t.Fatalf("Halves(%d, %v), in spite of %s: %v, %d", s.seed, s.t, why, got, e)
			}
			for _, l := range [][]api.Pair{nil, {}, {{Key: s.t.Keys[n%16]}}, {{Key: 1}, {Key: 1}}} {
				if got, e := table.Puts(s.seed, s.t, l...); got != (api.Table{}) || e != 270 {
					t.Fatalf("Puts(%d, %v; %v), in spite of %s: %v, %d", s.seed, s.t, l, why, got, e)
				}
			}
		}
	}
	if deep < 100 {
		t.Errorf("%d of MaxDepth", deep)
	}
}

// P17.5, R3: rows of pairs of which some can't be put; the room behind their end is not looked at, and they stay.
func TestPuts(t *testing.T) {
	c := chance(27)
	met := map[api.Errno]int{}
	for n, s := range many() {
		if n%4 > 0 {
			continue
		}
		b := bookOf(s.seed, s.t)
		room := make([]api.Pair, 20)
		for at := range room {
			room[at] = api.Pair{Key: c.going(b), Value: c.word()}
		}
		for range c.below(3) {
			keys := append(keysFor(s, &c), room[0].Key, room[3].Key)
			room[c.below(20)].Key = keys[c.below(len(keys))]
		}
		was := slices.Clone(room)
		for _, long := range []int{0, 1, 2, c.below(15), 20} {
			want, no := b.putsBy(was[:long])
			got, e := table.Puts(s.seed, s.t, room[:long]...)
			if got != want.orNone(no) || e != no || !mayBe(s.seed, got, e) {
				t.Fatalf("Puts(%d, %v; %v): %v, %d, not %v, %d", s.seed, s.t, room[:long], got, e, want, no)
			}
			if !slices.Equal(room, was) {
				t.Fatalf("Puts(%v) made them %v", was, room)
			}
			met[e]++
		}
	}
	for _, e := range []api.Errno{api.OK, api.ErrArg, api.ErrThere, api.ErrFull} {
		if met[e] < 200 {
			t.Errorf("%d is met %d times", e, met[e])
		}
	}
}

// P17.5: in numbers: the first one that has an error says which.
func TestPutsInNumbers(t *testing.T) {
	pairs := func(hashes ...uint64) (l []api.Pair) {
		for _, h := range hashes {
			l = append(l, api.Pair{Key: by(h), Value: h + 1})
		}
		return l
	}
	const far = 1 << 63
	thirteen := here(a1, a2, a3, a4, a5, a6, a7, a8, z1, z2, z3, z4, z5)
	for _, c := range []struct {
		t, want api.Table
		l       []api.Pair
		e       api.Errno
	}{
		{here(), here(), nil, api.OK},
		{here(a2, 0, 1), here(a2, 0, 1), []api.Pair{}, api.OK},
		{thirteen, thirteen, nil, api.OK},
		{here(), here(a1), pairs(a1), api.OK},
		{here(0, a2, 1), here(a1, a2, a3, 0, 0, 0, 0, 0, z1), pairs(a1, z1, a3), api.OK},
		{here(a1), api.Table{}, pairs(a2, a1, far), api.ErrThere},
		{here(a1), api.Table{}, pairs(a2, far, a1), api.ErrArg},
		{here(a1), api.Table{}, pairs(a2, a3, a2), api.ErrThere},
		{here(), api.Table{}, pairs(a2, a2), api.ErrThere},
		{thirteen, here(a1, a2, a3, a4, a5, a6, a7, a8, z1, z2, z3, z4, z5, a9), pairs(a9), api.OK},
		{thirteen, api.Table{}, pairs(a9, z6), api.ErrFull},
		{thirteen, api.Table{}, pairs(a9, z6, a9, far), api.ErrFull},
		{thirteen, api.Table{}, pairs(a9, a9, z6), api.ErrThere},
		{thirteen, api.Table{}, pairs(a9, far, z6), api.ErrArg},
		{thirteen, api.Table{}, pairs(a8), api.ErrThere},
	} {
		c.t.Depth = 1
		if c.e == api.OK {
			c.want.Depth = 1
		}
		if got, e := table.Puts(5, c.t, c.l...); got != c.want || e != c.e {
			t.Errorf("Puts(%v; %v): %v, %d, not %v, %d", c.t, c.l, got, e, c.want, c.e)
		}
	}
}

// P17.5, R1: very many pairs end, too.
func TestPutsOfVeryMany(t *testing.T) {
	l := make([]api.Pair, 1<<20)
	for n := range l {
		l[n].Key = uint64(n)
	}
	if got, e := table.Puts(5, here(), l...); got != (api.Table{}) || e != api.ErrFull {
		t.Errorf("Puts of very many: %v, %d", got, e)
	}
}
