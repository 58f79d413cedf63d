package layout_test

import (
	"math"
	"testing"

	"honeycomb/api"
	"honeycomb/layout"
)

// P16.1, P16.6: all words of all slabs; each cell is that of one of them, and has them back.
func TestCellAndOf(t *testing.T) {
	next := firstCell
	for slab := range mostSlabs {
		for word := range slabWords {
			at, e := layout.Cell(slab, word)
			if at != next || e != api.OK {
				t.Fatalf("Cell(%d, %d): %d, %d, not %d", slab, word, at, e, next)
			}
			ofSlab, ofWord, e := layout.Of(at)
			if ofSlab != slab || ofWord != word || e != api.OK {
				t.Fatalf("Of(%d): %d, %d, %d, not %d, %d", at, ofSlab, ofWord, e, slab, word)
			}
			next++
		}
	}
	if next != 5136 {
		t.Errorf("there are cells up to %d", next)
	}
}

// P16.1: in numbers, at the edges.
func TestCellInNumbers(t *testing.T) {
	for _, c := range []struct {
		slab, word, at int
		e              api.Errno
	}{
		{0, 0, 16, api.OK},
		{0, 39, 55, api.OK},
		{1, 0, 56, api.OK},
		{127, 0, 5096, api.OK},
		{127, 39, 5135, api.OK},
		{126, 39, 5095, api.OK},
		{2, 3, 99, api.OK},
		{0, 40, 0, 2},
		{0, 41, 0, 2},
		{127, 40, 0, 2},
		{0, -1, 0, 2},
		{127, -1, 0, 2},
		{1, -40, 0, 2},
		{1, -1, 0, 2},
		{-1, 0, 0, 2},
		{-1, 39, 0, 2},
		{128, 0, 0, 2},
		{128, 39, 0, 2},
		{128, -1, 0, 2},
		{-1, 40, 0, 2},
		{129, -40, 0, 2},
		{1 << 32, 0, 0, 2},
		{0, 1 << 32, 0, 2},
		{math.MinInt, 0, 0, 2},
		{math.MaxInt, 0, 0, 2},
		{0, math.MinInt, 0, 2},
		{0, math.MaxInt, 0, 2},
		{math.MaxInt, math.MaxInt, 0, 2},
	} {
		if at, e := layout.Cell(c.slab, c.word); at != c.at || e != c.e {
			t.Errorf("Cell(%d, %d): %d, %d, not %d, %d", c.slab, c.word, at, e, c.at, c.e)
		}
	}
}

// P16.1: in numbers, at the edges.
func TestOfInNumbers(t *testing.T) {
	for _, c := range []struct {
		cell, slab, word int
		e                api.Errno
	}{
		{16, 0, 0, api.OK},
		{55, 0, 39, api.OK},
		{56, 1, 0, api.OK},
		{99, 2, 3, api.OK},
		{5095, 126, 39, api.OK},
		{5096, 127, 0, api.OK},
		{5135, 127, 39, api.OK},
		{15, 0, 0, 2},
		{14, 0, 0, 2},
		{4, 0, 0, 2},
		{1, 0, 0, 2},
		{0, 0, 0, 2},
		{-1, 0, 0, 2},
		{-16, 0, 0, 2},
		{-24, 0, 0, 2},
		{5136, 0, 0, 2},
		{5137, 0, 0, 2},
		{5176, 0, 0, 2},
		{1 << 32, 0, 0, 2},
		{1<<32 + 16, 0, 0, 2},
		{math.MinInt, 0, 0, 2},
		{math.MaxInt, 0, 0, 2},
	} {
		if slab, word, e := layout.Of(c.cell); slab != c.slab || word != c.word || e != c.e {
			t.Errorf("Of(%d): %d, %d, %d, not %d, %d, %d", c.cell, slab, word, e, c.slab, c.word, c.e)
		}
	}
}

// P16.6: no two slabs have a cell together, and no cell of a slab is one of those ahead of all.
func TestNoCellOfTwoSlabs(t *testing.T) {
	whose := map[int]int{}
	for _, cell := range []int{0, 1, 2} {
		whose[cell] = -1
	}
	for goer := range 8 {
		whose[4+goer] = -1
	}
	for slab := range mostSlabs {
		for word := range slabWords {
			at, _ := layout.Cell(slab, word)
			if other, met := whose[at]; met {
				t.Fatalf("the cell %d is that of %d and of %d", at, other, slab)
			}
			whose[at] = slab
		}
	}
}

// P16.1 to P16.5: the chapter's examples.
func TestExamples(t *testing.T) {
	if at, e := layout.Cell(2, 3); at != 99 || e != api.OK {
		t.Errorf("Cell: %d, %d", at, e)
	}
	if slab, word, e := layout.Of(99); slab != 2 || word != 3 || e != api.OK {
		t.Errorf("Of: %d, %d, %d", slab, word, e)
	}
	if slab, word, e := layout.Of(15); slab != 0 || word != 0 || e != api.ErrArg {
		t.Errorf("Of: %d, %d, %d", slab, word, e)
	}
	if w, e := layout.Pack(api.Entry{Slab: 4, Gen: 7}); w != 458757 || e != api.OK {
		t.Errorf("Pack: %d, %d", w, e)
	}
	if got, e := layout.Unpack(0); got != (api.Entry{}) || e != api.ErrEntry {
		t.Errorf("Unpack: %v, %d", got, e)
	}
	table := api.Table{Count: 6, Depth: 3, Prefix: 5}
	words, e := layout.TableWords(table)
	if e != api.OK || len(words) != 40 || words[0] != 6 || words[1] != 1283 {
		t.Errorf("TableWords: %v, %d", words, e)
	}
	if !layout.Has(table, 5<<61) {
		t.Error("Has")
	}
	if n, e := layout.At(api.Dir{Depth: 1, Entries: []api.Entry{{Slab: 1}, {Slab: 2}}}, 1<<63); n != 1 || e != api.OK {
		t.Errorf("At: %d, %d", n, e)
	}
}
