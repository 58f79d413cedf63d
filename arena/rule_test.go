package arena_test

import (
	"math"
	"slices"
	"strconv"
	"strings"
	"testing"

	"honeycomb/api"
)

// lastGen is the last generation, as the document's words say it.
const lastGen = 1<<40 - 1

// rows are an arena by another way than the package's: a row of letters, which say of each slab whether it is free, live or retired, and a row of generations. What the document says is tried on them.
type rows struct {
	is  string
	gen []uint64
}

const letters = "flr" // by their tags, 0 to 2

func rowsOf(a api.Arena) (r rows) {
	is := make([]byte, len(a.Slabs))
	for slab, s := range a.Slabs {
		is[slab] = '?'
		if s.Tag >= 0 && s.Tag <= 2 {
			is[slab] = letters[s.Tag]
		}
		r.gen = append(r.gen, s.Gen)
	}
	r.is = string(is)
	return r
}

func (r rows) arena() (a api.Arena) {
	for slab, letter := range r.is {
		a.Slabs = append(a.Slabs, api.Slab{Tag: strings.IndexRune(letters, letter), Gen: r.gen[slab]})
	}
	return a
}

// with are the rows in which one slab is that, and has that generation.
func (r rows) with(slab int, letter string, gen uint64) rows {
	gens := slices.Clone(r.gen)
	gens[slab] = gen
	return rows{r.is[:slab] + letter + r.is[slab+1:], gens}
}

func (r rows) mayBy() bool {
	for slab, letter := range r.is {
		if letter == '?' || r.gen[slab]>>40 != 0 {
			return false
		}
	}
	return len(r.is) > 1 && len(r.is) < 129
}

// tagBy is the letter of the slab that is meant, if one is.
func (r rows) tagBy(e api.Entry) string {
	for slab := range r.is {
		if (api.Entry{Slab: slab, Gen: r.gen[slab]}) == e {
			return r.is[slab : slab+1]
		}
	}
	return ""
}

func (r rows) entriesBy(letter byte) (l []api.Entry) {
	for slab := range r.is {
		if r.is[slab] == letter {
			l = append(l, api.Entry{Slab: slab, Gen: r.gen[slab]})
		}
	}
	return l
}

func (r rows) takeBy(many int) (rows, []api.Entry, api.Errno) {
	l := r.entriesBy('f')
	switch {
	case !r.mayBy():
		return rows{}, nil, api.ErrArena
	case many < 0:
		return rows{}, nil, api.ErrArg
	case many > len(l):
		return rows{}, nil, api.ErrFull
	}
	for _, e := range l[:many] {
		r = r.with(e.Slab, "l", e.Gen)
	}
	return r, l[:many], api.OK
}

func (r rows) retireBy(l []api.Entry) (rows, api.Errno) {
	if !r.mayBy() {
		return rows{}, api.ErrArena
	}
	for _, e := range l {
		if r.tagBy(e) != "l" {
			return rows{}, api.ErrNone
		}
		r = r.with(e.Slab, "r", e.Gen)
	}
	return r, api.OK
}

func (r rows) giveBy(l []api.Entry) (rows, api.Errno) {
	if !r.mayBy() {
		return rows{}, api.ErrArena
	}
	for _, e := range l {
		switch letter := r.tagBy(e); {
		case letter != "l" && letter != "r":
			return rows{}, api.ErrNone
		case e.Gen == lastGen:
			return rows{}, api.ErrFull
		}
		r = r.with(e.Slab, "f", e.Gen+1)
	}
	return r, api.OK
}

// read are the slabs that a text tells, such as "f0 l7 r^": the letter of each, and its generation, of which ^ is the last.
func read(text string) api.Arena {
	var r rows
	for _, word := range strings.Fields(text) {
		r.is += word[:1]
		r.gen = append(r.gen, readGen(word[1:]))
	}
	return r.arena()
}

// list are the entries that a text tells, such as "0:7 1:^": the slab of each, and its generation.
func list(text string) (l []api.Entry) {
	for _, word := range strings.Fields(text) {
		slab, gen, _ := strings.Cut(word, ":")
		n, err := strconv.Atoi(slab)
		if err != nil {
			panic(err)
		}
		l = append(l, api.Entry{Slab: n, Gen: readGen(gen)})
	}
	return l
}

func readGen(text string) uint64 {
	if text == "^" {
		return lastGen
	}
	gen, err := strconv.ParseUint(text, 10, 64)
	if err != nil {
		panic(err)
	}
	return gen
}

// chance are numbers that come to the same with each run of a test.
type chance uint64

func (c *chance) word() uint64 {
	*c ^= *c << 13
	*c ^= *c >> 7
	*c ^= *c << 17
	return uint64(*c) * 0x2545f4914f6cdd1d
}

func (c *chance) below(n int) int { return int(c.word() >> 33 % uint64(n)) }

// someGens are at both edges of those that there are.
var someGens = []uint64{0, 1, lastGen - 1, lastGen}

// small are all arenas of two and three slabs, of each tag, and generations at the edges.
func small() (l []api.Arena) {
	var kinds []api.Slab
	for tag := range 3 {
		for _, gen := range someGens {
			kinds = append(kinds, api.Slab{Tag: tag, Gen: gen})
		}
	}
	for _, one := range kinds {
		for _, two := range kinds {
			l = append(l, api.Arena{Slabs: []api.Slab{one, two}})
			for _, three := range kinds {
				l = append(l, api.Arena{Slabs: []api.Slab{one, two, three}})
			}
		}
	}
	return l
}

// wide are arenas of more slabs, up to the most: all of one tag, all but one, and of all three by chance.
func wide() (l []api.Arena) {
	c := chance(11)
	for _, slabs := range []int{2, 4, 5, 8, 40, 127, 128} {
		for tag := range 3 {
			l = append(l, alike(slabs, tag, 0), alike(slabs, tag, lastGen), alike(slabs, tag, lastGen-1), alike(slabs, tag, 1<<39+7))
			for _, slab := range []int{0, 1, slabs / 2, slabs - 1} {
				a := alike(slabs, tag, uint64(slab))
				a.Slabs[slab] = api.Slab{Tag: (tag + 1 + c.below(2)) % 3, Gen: 6}
				l = append(l, a)
			}
		}
		for range 20 {
			l = append(l, c.arena(slabs))
		}
	}
	return l
}

func alike(slabs, tag int, gen uint64) (a api.Arena) {
	for range slabs {
		a.Slabs = append(a.Slabs, api.Slab{Tag: tag, Gen: gen})
	}
	return a
}

func (c *chance) gen() uint64 {
	return []uint64{0, 1, lastGen - 1, lastGen, uint64(c.below(5)), c.word() >> 24}[c.below(6)]
}

func (c *chance) arena(slabs int) (a api.Arena) {
	for range slabs {
		a.Slabs = append(a.Slabs, api.Slab{Tag: c.below(3), Gen: c.gen()})
	}
	return a
}

// entriesNear are one for each slab, as it is meant, of the generations beside it, and of others; and such as no slab is there for.
func entriesNear(a api.Arena) (l []api.Entry) {
	for slab, s := range a.Slabs {
		for _, gen := range []uint64{s.Gen, s.Gen - 1, s.Gen + 1, s.Gen + 1<<40, s.Gen ^ 1<<63} {
			l = append(l, api.Entry{Slab: slab, Gen: gen})
		}
	}
	for _, slab := range noSlabs(len(a.Slabs)) {
		for _, gen := range someGens {
			l = append(l, api.Entry{Slab: slab, Gen: gen})
		}
	}
	return l
}

// noSlabs are numbers of which there is no slab, among them those at which numbers wrap round.
func noSlabs(slabs int) []int {
	return []int{-1, -2, -slabs, slabs, slabs + 1, 128, 1 << 32, 1<<32 + 1, -1 << 32, math.MinInt, math.MinInt + 1, math.MaxInt - 1, math.MaxInt}
}

// noArenas are such as may not be.
func noArenas() (l []api.Arena) {
	l = []api.Arena{{}, {Slabs: []api.Slab{}}, alike(1, 0, 0), alike(1, 1, 5), alike(1, 2, lastGen), alike(129, 0, 0), alike(129, 1, 3), alike(129, 2, 3), alike(130, 0, 0), alike(1000, 1, 1), alike(1<<16, 0, 0)}
	for _, slabs := range []int{2, 3, 128} {
		for _, slab := range []int{0, 1, slabs / 2, slabs - 1} {
			for n := range 3 {
				for _, tag := range []int{-1, 3, 4, -3, 1 << 32, 1<<32 + 1, -1 << 32, math.MinInt, math.MaxInt} {
					a := alike(slabs, n, 5)
					a.Slabs[slab].Tag = tag
					l = append(l, a)
				}
				for _, gen := range []uint64{lastGen + 1, lastGen + 2, 1 << 41, 1 << 62, 1 << 63, math.MaxInt64, math.MaxUint64 - 1, math.MaxUint64} {
					a := alike(slabs, n, 5)
					a.Slabs[slab].Gen = gen
					l = append(l, a)
				}
			}
		}
	}
	return l
}

// copied is the same arena, with slabs of its own.
func copied(a api.Arena) api.Arena { return api.Arena{Slabs: slices.Clone(a.Slabs)} }

// alone is whether an arena has exactly these slabs.
func alone(got, want api.Arena) bool { return slices.Equal(got.Slabs, want.Slabs) }

// TestRules: the arenas that are tried are those that they are said to be.
func TestRules(t *testing.T) {
	met := map[string]int{}
	for _, a := range append(small(), wide()...) {
		r := rowsOf(a)
		if !r.mayBy() || !alone(r.arena(), a) {
			t.Fatalf("%v may not be", a)
		}
		for letter := range 3 {
			if many := len(r.entriesBy(letters[letter])); many == len(a.Slabs) {
				met[letters[letter:letter+1]]++
			} else if many == 0 {
				met["no "+letters[letter:letter+1]]++
			}
		}
	}
	if len(met) != 6 {
		t.Errorf("all of one tag, none of one: %v", met)
	}
	for _, a := range noArenas() {
		if rowsOf(a).mayBy() {
			t.Errorf("%v may be", a)
		}
	}
}
