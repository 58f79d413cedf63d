package layout_test

import (
	"math"
	"slices"
	"testing"

	"honeycomb/api"
	"honeycomb/layout"
)

// holdTable is of any words, whether they may be or not.
func holdTable(t *testing.T, words []uint64) api.Errno {
	t.Helper()
	want, no := tableBy(words)
	handed, asItWas := roomy(words, 77)
	got, e := layout.Table(handed)
	if got != want || e != no {
		t.Fatalf("Table(%v): %v, %d, not %v, %d", words, got, e, want, no)
	}
	if !asItWas() {
		t.Fatalf("Table(%v) made it %v", words, handed)
	}
	if e == api.OK {
		if back, e := layout.TableWords(got); !slices.Equal(back, words) || e != api.OK { // P16.6
			t.Fatalf("TableWords(%v): %v, %d, not %v", got, back, e, words)
		}
	}
	return e
}

// P16.3, P16.6: tables that may be, and their words, both ways.
func TestTableWords(t *testing.T) {
	for _, table := range someTables() {
		want, _ := wordsBy(table)
		words, e := layout.TableWords(table)
		if !slices.Equal(words, want) || e != api.OK {
			t.Fatalf("TableWords(%v): %v, %d, not %v", table, words, e, want)
		}
		if back, e := layout.Table(words); back != table || e != api.OK {
			t.Fatalf("Table(%v): %v, %d, not %v", words, back, e, table)
		}
		holdTable(t, words)
	}
}

// P16.3: tables that may not be.
func TestTableWordsOfNone(t *testing.T) {
	for _, table := range noTables() {
		if words, e := layout.TableWords(table); len(words) > 0 || e != 260 {
			t.Fatalf("TableWords(%v): %v, %d", table, words, e)
		}
	}
}

// P16.3: in numbers: each word at its place.
func TestTableInNumbers(t *testing.T) {
	table := api.Table{Count: 1, Depth: 3, Prefix: 5, Can: 7, Live: 8, Ctrl: [2]uint64{101, 102}}
	for n := range table.Keys {
		table.Keys[n], table.Values[n] = uint64(201+n), uint64(301+n)
	}
	want := []uint64{
		1, 1283, 7, 8, 101, 102,
		201, 202, 203, 204, 205, 206, 207, 208, 209, 210, 211, 212, 213, 214, 215, 216,
		301, 302, 303, 304, 305, 306, 307, 308, 309, 310, 311, 312, 313, 314, 315, 316,
		0, 0,
	}
	if words, e := layout.TableWords(table); !slices.Equal(words, want) || e != api.OK {
		t.Errorf("TableWords: %v, %d", words, e)
	}
	if got, e := layout.Table(want); got != table || e != api.OK {
		t.Errorf("Table: %v, %d", got, e)
	}
}

// P16.3: rows of other lengths, whatever they begin with.
func TestTableOfOtherLengths(t *testing.T) {
	for _, table := range someTables()[:60] {
		words, _ := wordsBy(table)
		all := append(words, make([]uint64, 100)...)
		for _, n := range []int{0, 1, 2, 4, 6, 22, 37, 38, 39, 41, 42, 80, 140} {
			if got, e := layout.Table(all[:n]); got != (api.Table{}) || e != 260 {
				t.Fatalf("Table of %d words: %v, %d", n, got, e)
			}
		}
		holdTable(t, all[:40])
	}
	for _, none := range [][]uint64{nil, {}} {
		if got, e := layout.Table(none); got != (api.Table{}) || e != 260 {
			t.Fatalf("Table of none: %v, %d", got, e)
		}
	}
}

// P16.3: a word of some table is changed: those of limits by what is at these, all others by whatever bit.
func TestTableOfChangedWords(t *testing.T) {
	met := map[int]map[api.Errno]int{}
	tables := someTables()
	for _, table := range tables[len(tables)-300:] {
		words, _ := wordsBy(table)
		for at := range words {
			if met[at] == nil {
				met[at] = map[api.Errno]int{}
			}
			was := words[at]
			for _, w := range []uint64{0, 1, 5, 6, 14, 15, 255, 256, was + 1, was - 1, was ^ 1<<8, was ^ 1<<63, was ^ 1<<32, math.MaxUint64} {
				words[at] = w
				met[at][holdTable(t, words)]++
			}
			for _, bit := range []int{0, 1, 2, 3, 4, 7, 8, 9, 12, 13, 14, 16, 31, 33, 40, 55, 56, 57, 62} {
				words[at] = was ^ 1<<bit
				met[at][holdTable(t, words)]++
			}
			words[at] = was
		}
	}
	for at, n := range met {
		free := at == 0 || at > 3 && at < 38 // what may have any words
		if free && n[260] > 0 || !free && n[260] < 500 || n[api.OK] < 100 {
			t.Errorf("the word %d came to %v", at, n)
		}
	}
}

// P16.3: in numbers, at the limits: of each Depth its Prefixes, and of Can and Live.
func TestTableAtLimits(t *testing.T) {
	for _, c := range []struct {
		place, can, live uint64
		e                api.Errno
	}{
		{0, 0, 0, api.OK},
		{0x100, 0, 0, 260},
		{0x001, 0, 0, api.OK},
		{0x101, 0, 0, api.OK},
		{0x201, 0, 0, 260},
		{0x302, 0, 0, api.OK},
		{0x402, 0, 0, 260},
		{0x703, 0, 0, api.OK},
		{0x803, 0, 0, 260},
		{0xf04, 0, 0, api.OK},
		{0x1004, 0, 0, 260},
		{0x1f05, 0, 0, api.OK},
		{0x2005, 0, 0, 260},
		{0x006, 0, 0, 260},
		{0x106, 0, 0, 260},
		{0x3f06, 0, 0, 260},
		{0x0ff, 0, 0, 260},
		{1 << 63, 0, 0, 260},
		{1<<63 + 5, 0, 0, 260},
		{math.MaxUint64, 0, 0, 260},
		{0x105, 14, 0, api.OK},
		{0x105, 15, 0, 260},
		{0x105, 0, 14, api.OK},
		{0x105, 0, 15, 260},
		{0x105, 14, 14, api.OK},
		{0x105, 1 << 32, 14, 260},
		{0x105, 14, 1 << 32, 260},
		{0x105, 1 << 63, 0, 260},
		{0x105, 0, 1 << 63, 260},
		{0x105, math.MaxUint64, 0, 260},
		{0x105, 0, math.MaxUint64, 260},
	} {
		words := make([]uint64, 40)
		words[1], words[2], words[3] = c.place, c.can, c.live
		if e := holdTable(t, words); e != c.e {
			t.Errorf("Table(%#x, %d, %d): %d, not %d", c.place, c.can, c.live, e, c.e)
		}
	}
}

// P16.3, R3: what is told is new each time, and stays as it is, whatever becomes of what was handed in.
func TestTableSharesNoMemory(t *testing.T) {
	for _, table := range someTables()[:20] {
		want, _ := wordsBy(table)
		words, _ := layout.TableWords(table)
		got, _ := layout.Table(words)
		all := words[:cap(words)]
		for n := range all {
			all[n] = 9
		}
		if again, e := layout.TableWords(table); !slices.Equal(again, want) || e != api.OK || got != table {
			t.Fatalf("TableWords(%v), again: %v, %d, and %v", table, again, e, got)
		}
	}
}
