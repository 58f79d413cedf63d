package layout_test

import (
	"math"
	"testing"

	"honeycomb/api"
	"honeycomb/layout"
)

// hashes are 0, the greatest one, those on both sides of where each Prefix of each Depth begins, and some by chance.
func hashes() []uint64 {
	l := []uint64{0, 1, 31, 32, math.MaxUint64, math.MaxUint64 - 1, 1<<63 - 1, 1 << 63}
	for depth := 1; depth <= mostDepth+1; depth++ {
		for prefix := range uint64(1) << depth {
			begins := prefix << (64 - depth)
			l = append(l, begins, begins-1, begins+1)
		}
	}
	c := chance(33)
	for range 300 {
		l = append(l, c.next())
	}
	return l
}

// P16.5: all tables that may be, of each Depth and Prefix.
func TestHas(t *testing.T) {
	for _, table := range someTables()[:200] {
		for _, hash := range hashes() {
			if want := hasBy(table, hash); layout.Has(table, hash) != want {
				t.Fatalf("Has(%v, %#x), not %t", table, hash, want)
			}
		}
	}
}

// P16.5: false, if its words may not be such.
func TestHasOfNoTable(t *testing.T) {
	for _, table := range append(noTables(), api.Table{Can: -1}, api.Table{Live: 15}, api.Table{Depth: -1}, api.Table{Depth: 64, Prefix: 1 << 63}) {
		for _, hash := range []uint64{0, table.Prefix, table.Prefix << 59, table.Prefix << 63, 1 << 63, math.MaxUint64} {
			if layout.Has(table, hash) {
				t.Fatalf("Has(%v, %#x)", table, hash)
			}
		}
	}
	six := api.Table{Depth: 6, Prefix: 33}
	if layout.Has(six, 33<<58) {
		t.Error("Has of a Depth that is too great")
	}
}

// P16.5: in numbers.
func TestHasInNumbers(t *testing.T) {
	for _, c := range []struct {
		depth  int
		prefix uint64
		hash   uint64
		has    bool
	}{
		{0, 0, 0, true},
		{0, 0, math.MaxUint64, true},
		{1, 0, 1<<63 - 1, true},
		{1, 0, 1 << 63, false},
		{1, 1, 1 << 63, true},
		{1, 1, 1<<63 - 1, false},
		{3, 5, 5 << 61, true},
		{3, 5, 5<<61 - 1, false},
		{3, 5, 6<<61 - 1, true},
		{3, 5, 6 << 61, false},
		{5, 0, 1<<59 - 1, true},
		{5, 0, 1 << 59, false},
		{5, 31, math.MaxUint64, true},
		{5, 31, 31 << 59, true},
		{5, 31, 31<<59 - 1, false},
		{5, 5, 5, false},
	} {
		if table := (api.Table{Depth: c.depth, Prefix: c.prefix}); layout.Has(table, c.hash) != c.has {
			t.Errorf("Has(%d, %d, %#x), not %t", c.depth, c.prefix, c.hash, c.has)
		}
	}
}

// P16.5: of each Depth.
func TestAt(t *testing.T) {
	for _, d := range someDirs()[:80] {
		was := copied(d)
		for _, hash := range hashes() {
			want, _ := atBy(d, hash)
			if n, e := layout.At(d, hash); n != want || e != api.OK {
				t.Fatalf("At(%v, %#x): %d, %d, not %d", d, hash, n, e, want)
			}
		}
		if !sameDir(d, was) {
			t.Fatalf("At made %v of %v", d, was)
		}
	}
}

// P16.5: ErrDir, if there are no such words.
func TestAtOfNoDir(t *testing.T) {
	for _, d := range noDirs() {
		was := copied(d)
		for _, hash := range []uint64{0, 1 << 63, math.MaxUint64} {
			if n, e := layout.At(d, hash); n != 0 || e != 261 {
				t.Fatalf("At(%v, %#x): %d, %d", d, hash, n, e)
			}
		}
		if !sameDir(d, was) {
			t.Fatalf("At made %v of %v", d, was)
		}
	}
}

// P16.5: in numbers.
func TestAtInNumbers(t *testing.T) {
	for _, c := range []struct {
		depth int
		hash  uint64
		at    int
	}{
		{0, 0, 0},
		{0, math.MaxUint64, 0},
		{1, 1<<63 - 1, 0},
		{1, 1 << 63, 1},
		{2, 1<<62 - 1, 0},
		{2, 1 << 62, 1},
		{2, 3 << 62, 3},
		{5, 1<<59 - 1, 0},
		{5, 1 << 59, 1},
		{5, 31<<59 - 1, 30},
		{5, 31 << 59, 31},
		{5, math.MaxUint64, 31},
		{5, 31, 0},
	} {
		d := api.Dir{Depth: c.depth, Entries: make([]api.Entry, power(c.depth))}
		if n, e := layout.At(d, c.hash); n != c.at || e != api.OK {
			t.Errorf("At(%d, %#x): %d, %d, not %d", c.depth, c.hash, n, e, c.at)
		}
	}
}

// P16.6: of all tables of one Depth a hash goes to that of one Prefix, which is the number of its entry in a directory of that Depth.
func TestOnePrefix(t *testing.T) {
	for depth := range mostDepth + 1 {
		d := api.Dir{Depth: depth, Entries: make([]api.Entry, power(depth))}
		for _, hash := range hashes() {
			var goesTo []int
			for prefix := range power(depth) {
				if layout.Has(api.Table{Depth: depth, Prefix: prefix, Can: 14}, hash) {
					goesTo = append(goesTo, int(prefix))
				}
			}
			if n, e := layout.At(d, hash); len(goesTo) != 1 || n != goesTo[0] || e != api.OK {
				t.Fatalf("%#x goes, by %d bits, to %v, and %d, %d", hash, depth, goesTo, n, e)
			}
		}
	}
}
