package layout_test

import (
	"fmt"
	"math"
	"slices"
	"strconv"
	"strings"
	"testing"

	"honeycomb/api"
)

// The limits and places, as the document's words say them.
const (
	mostSlabs = 128
	slabWords = 40
	firstCell = 16
	lastGen   = 1099511627775
	mostDepth = 5
	mostFill  = 14
)

// bits are a word's, the highest first, as a text.
func bits(w uint64) string { return fmt.Sprintf("%064b", w) }

// wordOf is the word of these bits.
func wordOf(text string) uint64 {
	w, err := strconv.ParseUint(text, 2, 64)
	if err != nil || len(text) != 64 {
		panic(text)
	}
	return w
}

// part are the bits of a word from one to the other.
func part(w uint64, from, to int) uint64 {
	return wordOf(strings.Repeat("0", 63-to+from) + bits(w)[63-to:64-from])
}

// packBy is the word of an entry by the document's words, laid bit by bit as a text.
func packBy(e api.Entry) (uint64, api.Errno) {
	if e.Slab < 0 || e.Slab >= mostSlabs || e.Gen > lastGen {
		return 0, 262
	}
	return wordOf(fmt.Sprintf("00000000%040b%016b", e.Gen, e.Slab+1)), api.OK
}

func unpackBy(w uint64) (api.Entry, api.Errno) {
	slab := part(w, 0, 15)
	if slab == 0 || slab > mostSlabs || part(w, 56, 63) != 0 {
		return api.Entry{}, 262
	}
	return api.Entry{Slab: int(slab) - 1, Gen: part(w, 16, 55)}, api.OK
}

// power is 2 to the power of a depth that may be.
func power(depth int) uint64 { return []uint64{1, 2, 4, 8, 16, 32}[depth] }

func mayTable(t api.Table) bool {
	return slices.Contains([]int{0, 1, 2, 3, 4, 5}, t.Depth) && t.Prefix < power(t.Depth) && t.Can >= 0 && t.Can <= mostFill && t.Live >= 0 && t.Live <= mostFill
}

// wordsBy are a table's words, one behind the other.
func wordsBy(t api.Table) ([]uint64, api.Errno) {
	if !mayTable(t) {
		return nil, 260
	}
	l := []uint64{t.Count, wordOf(fmt.Sprintf("%056b%08b", t.Prefix, t.Depth)), uint64(t.Can), uint64(t.Live)}
	return slices.Concat(l, t.Ctrl[:], t.Keys[:], t.Values[:], []uint64{0, 0}), api.OK
}

func tableBy(words []uint64) (api.Table, api.Errno) {
	if len(words) != slabWords || words[2] > mostFill || words[3] > mostFill || words[38] != 0 || words[39] != 0 {
		return api.Table{}, 260
	}
	t := api.Table{Count: words[0], Depth: int(part(words[1], 0, 7)), Prefix: part(words[1], 8, 63), Can: int(words[2]), Live: int(words[3])}
	t.Ctrl = [2]uint64{words[4], words[5]}
	for n := range 16 {
		t.Keys[n], t.Values[n] = words[6+n], words[22+n]
	}
	if !mayTable(t) {
		return api.Table{}, 260
	}
	return t, api.OK
}

func dirWordsBy(d api.Dir) ([]uint64, api.Errno) {
	if d.Depth < 0 || d.Depth > mostDepth || uint64(len(d.Entries)) != power(d.Depth) {
		return nil, 261
	}
	l := []uint64{uint64(d.Depth)}
	for _, entry := range d.Entries {
		w, e := packBy(entry)
		if e != api.OK {
			return nil, 261
		}
		l = append(l, w)
	}
	for len(l) < slabWords {
		l = append(l, 0)
	}
	return l, api.OK
}

func dirBy(words []uint64) (api.Dir, api.Errno) {
	if len(words) != slabWords || words[0] > mostDepth {
		return api.Dir{}, 261
	}
	d := api.Dir{Depth: int(words[0])}
	for n, w := range words[1:] {
		entry, e := unpackBy(w)
		if uint64(n) < power(d.Depth) && e == api.OK {
			d.Entries = append(d.Entries, entry)
		} else if uint64(n) < power(d.Depth) || w != 0 {
			return api.Dir{}, 261
		}
	}
	return d, api.OK
}

func hasBy(t api.Table, hash uint64) bool {
	return mayTable(t) && strings.HasPrefix(bits(hash), bits(t.Prefix)[64-t.Depth:])
}

func atBy(d api.Dir, hash uint64) (int, api.Errno) {
	if _, e := dirWordsBy(d); e != api.OK {
		return 0, e
	}
	n, _ := strconv.ParseInt("0"+bits(hash)[:d.Depth], 2, 64)
	return int(n), api.OK
}

// chance is a row of numbers that look like chance, and are the same each time.
type chance uint64

func (c *chance) next() uint64 {
	*c ^= *c << 13
	*c ^= *c >> 7
	*c ^= *c << 17
	return uint64(*c)
}

func (c *chance) below(n int) int { return int(c.next() % uint64(n)) }

// word is now and then one at an edge.
func (c *chance) word() uint64 {
	if c.below(3) == 0 {
		return []uint64{0, 1, 1 << 63, math.MaxUint64, 1 << 40, 255}[c.below(6)]
	}
	return c.next()
}

func (c *chance) table() api.Table {
	t := api.Table{Count: c.word(), Depth: c.below(mostDepth + 1), Can: c.below(mostFill + 1), Live: c.below(mostFill + 1)}
	t.Prefix = c.next() % power(t.Depth)
	for n := range t.Ctrl {
		t.Ctrl[n] = c.word()
	}
	for n := range t.Keys {
		t.Keys[n], t.Values[n] = c.word(), c.word()
	}
	return t
}

func (c *chance) entry() api.Entry {
	return api.Entry{Slab: c.below(mostSlabs), Gen: []uint64{0, 1, lastGen, c.next() % (lastGen + 1), c.next() % 1000}[c.below(5)]}
}

func (c *chance) dir() api.Dir {
	d := api.Dir{Depth: c.below(mostDepth + 1)}
	for range power(d.Depth) {
		d.Entries = append(d.Entries, c.entry())
	}
	return d
}

// someTables are such as may be: of each Depth, with each Prefix, those at the edges, and some by chance.
func someTables() (l []api.Table) {
	c := chance(5)
	for depth := range mostDepth + 1 {
		for prefix := range power(depth) {
			t := c.table()
			t.Depth, t.Prefix = depth, prefix
			l = append(l, t, api.Table{Depth: depth, Prefix: prefix})
		}
	}
	for n := range mostFill + 1 {
		can, live := c.table(), c.table()
		can.Can, live.Live = n, n
		l = append(l, can, live)
	}
	full := api.Table{Count: math.MaxUint64, Depth: 5, Prefix: 31, Can: 14, Live: 14}
	for n := range full.Ctrl {
		full.Ctrl[n] = math.MaxUint64
	}
	for n := range full.Keys {
		full.Keys[n], full.Values[n] = math.MaxUint64, math.MaxUint64
	}
	numbered := api.Table{Count: 1, Depth: 3, Prefix: 5, Can: 7, Live: 8, Ctrl: [2]uint64{101, 102}}
	for n := range numbered.Keys {
		numbered.Keys[n], numbered.Values[n] = uint64(201+n), uint64(301+n)
	}
	l = append(l, full, numbered, api.Table{})
	for range 500 {
		l = append(l, c.table())
	}
	return l
}

// noTables are such as may not be, by one thing each.
func noTables() (l []api.Table) {
	for _, t := range someTables()[:40] {
		for _, n := range []int{-1, 15, 16, 255, 256, 1 << 32, 1<<32 + 3, math.MinInt, math.MaxInt} {
			can, live, depth := t, t, t
			can.Can, live.Live, depth.Depth, depth.Prefix = n, n, n, 0
			l = append(l, can, live, depth)
		}
		for _, n := range []int{6, 7, 8, -2, -8, 63, 64, 65, 128} {
			depth := t
			depth.Depth, depth.Prefix = n, 0
			l = append(l, depth)
		}
		for _, n := range []uint64{power(t.Depth), power(t.Depth) + 1, 32, 64, 1 << 32, 1 << 55, 1 << 56, 1<<56 + t.Prefix, 1 << 63, math.MaxUint64} {
			prefix := t
			prefix.Prefix = n
			l = append(l, prefix)
		}
	}
	return l
}

// someDirs are such as may be: of each Depth, with slabs and generations at the edges, and some by chance.
func someDirs() (l []api.Dir) {
	c := chance(9)
	for depth := range mostDepth + 1 {
		for _, e := range []api.Entry{{}, {Slab: 127, Gen: lastGen}, {Slab: 127}, {Gen: lastGen}, {Slab: 1, Gen: 1 << 39}} {
			l = append(l, api.Dir{Depth: depth, Entries: slices.Repeat([]api.Entry{e}, int(power(depth)))})
		}
		numbered := api.Dir{Depth: depth}
		for n := range power(depth) {
			numbered.Entries = append(numbered.Entries, api.Entry{Slab: int(n) + 50, Gen: n + 100})
		}
		l = append(l, numbered)
	}
	for range 200 {
		l = append(l, c.dir())
	}
	return l
}

// noEntries are such as have no word.
func noEntries() (l []api.Entry) {
	for _, slab := range []int{-1, -2, 128, 129, 256, 65534, 65535, 65536, 65537, 1 << 32, 1<<32 + 1, math.MinInt, math.MaxInt} {
		l = append(l, api.Entry{Slab: slab}, api.Entry{Slab: slab, Gen: lastGen})
	}
	for _, gen := range []uint64{lastGen + 1, lastGen + 2, 1 << 41, 1 << 47, 1 << 48, 1<<48 + 1, 1 << 63, math.MaxUint64} {
		l = append(l, api.Entry{Gen: gen}, api.Entry{Slab: 127, Gen: gen}, api.Entry{Slab: 128, Gen: gen})
	}
	return l
}

// noWords are such as are no entry's.
func noWords() (l []uint64) {
	for _, low := range []uint64{0, 129, 130, 255, 256, 257, 1 << 15, 1<<15 + 1, 65535} {
		l = append(l, low, low+1<<16, low+7<<16, low+lastGen<<16)
	}
	for bit := 56; bit < 64; bit++ {
		l = append(l, 1|1<<bit, 128|1<<bit, 1<<bit, 5|9<<16|1<<bit, 128|lastGen<<16|1<<bit)
	}
	return append(l, math.MaxUint64)
}

// noDirs are such as may not be, by one thing each.
func noDirs() (l []api.Dir) {
	for n, d := range someDirs() {
		less := copied(d)
		less.Entries = less.Entries[1:]
		more := copied(d)
		more.Entries = append(more.Entries, api.Entry{Slab: 3})
		none, twice := copied(d), copied(d)
		none.Entries, twice.Entries = nil, append(twice.Entries, d.Entries...)
		l = append(l, less, more, none, twice)
		for _, depth := range []int{-1, d.Depth - 1, d.Depth + 1, 6, 7, 63, 64, 65, 256, 1<<32 + d.Depth, math.MinInt, math.MaxInt, -d.Depth - 1} {
			deep := copied(d)
			deep.Depth = depth
			l = append(l, deep)
		}
		for m, e := range noEntries() {
			wrong := copied(d)
			wrong.Entries[(n*5+m*3)%len(d.Entries)] = e
			l = append(l, wrong)
		}
	}
	deeper := api.Dir{Depth: 6, Entries: slices.Repeat([]api.Entry{{Slab: 1}}, 64)}
	return append(l, deeper, api.Dir{})
}

// copied is the same directory, in memory of its own.
func copied(d api.Dir) api.Dir {
	d.Entries = slices.Clone(d.Entries)
	return d
}

func sameDir(a, b api.Dir) bool { return a.Depth == b.Depth && slices.Equal(a.Entries, b.Entries) }

// roomy is the same row, with room behind its end in which something stands, and whether that, and the row, are as they were.
func roomy[T comparable](l []T, other T) ([]T, func() bool) {
	all := append(slices.Clone(l), other, other, other)
	was := slices.Clone(all)
	return all[:len(l)], func() bool { return slices.Equal(all, was) }
}

// Of the rules by which the others are held: what the document shows in numbers.
func TestRules(t *testing.T) {
	if w, e := packBy(api.Entry{Slab: 4, Gen: 7}); w != 458757 || e != api.OK {
		t.Errorf("packBy: %d, %d", w, e)
	}
	if got, e := unpackBy(458757); got != (api.Entry{Slab: 4, Gen: 7}) || e != api.OK {
		t.Errorf("unpackBy: %v, %d", got, e)
	}
	table := api.Table{Count: 6, Depth: 3, Prefix: 5}
	if w, e := wordsBy(table); len(w) != 40 || w[0] != 6 || w[1] != 1283 || e != api.OK {
		t.Errorf("wordsBy: %v, %d", w, e)
	}
	if !hasBy(table, 5<<61) || hasBy(table, 6<<61) {
		t.Error("hasBy")
	}
	for _, table := range someTables() {
		words, e := wordsBy(table)
		if got, no := tableBy(words); got != table || e != api.OK || no != api.OK {
			t.Fatalf("%v is not its own way back: %v, %d, %d", table, got, e, no)
		}
	}
	for _, d := range someDirs() {
		words, e := dirWordsBy(d)
		if got, no := dirBy(words); !sameDir(got, d) || e != api.OK || no != api.OK {
			t.Fatalf("%v is not its own way back: %v, %d, %d", d, got, e, no)
		}
	}
	for _, table := range noTables() {
		if mayTable(table) {
			t.Fatalf("%v may be", table)
		}
	}
	for _, d := range noDirs() {
		if _, e := dirWordsBy(d); e != 261 {
			t.Fatalf("%v may be", d)
		}
	}
}
