package monitor_test

import (
	"math"
	"slices"
	"strconv"
	"strings"
	"testing"

	"honeycomb/api"
)

// The last generation, and how much there may be of all, as the document's words say it.
const (
	lastGen   = 1<<40 - 1
	mostGoers = 8
	mostSlabs = 128
	mostBad   = 16
)

// book is a monitor by another way than the package's: of each entry that is meant what its slab is; who looks; what each has. What the document says is tried on it.
type book struct {
	slabs, goers int
	is           map[api.Entry]string // "free", "live" or "retired"
	pinned       map[int]bool
	got          map[int][]api.Entry
	bad          []api.Watch
}

var tagNames = [3]string{"free", "live", "retired"}

// bookOf is that of a monitor that may be.
func bookOf(m api.Monitor) book {
	b := book{len(m.Arena.Slabs), len(m.Pinned), map[api.Entry]string{}, map[int]bool{}, map[int][]api.Entry{}, slices.Clone(m.Bad)}
	for slab, s := range m.Arena.Slabs {
		b.is[api.Entry{Slab: slab, Gen: s.Gen}] = tagNames[s.Tag]
	}
	for goer, looks := range m.Pinned {
		if looks {
			b.pinned[goer] = true
		}
		b.got[goer] = slices.Clone(m.Has[goer])
	}
	return b
}

func (b book) monitor() api.Monitor {
	m := api.Monitor{Arena: api.Arena{Slabs: make([]api.Slab, b.slabs)}, Bad: b.bad}
	for e, name := range b.is {
		m.Arena.Slabs[e.Slab] = api.Slab{Tag: slices.Index(tagNames[:], name), Gen: e.Gen}
	}
	for goer := range b.goers {
		m.Pinned = append(m.Pinned, b.pinned[goer])
		m.Has = append(m.Has, b.got[goer])
	}
	return m
}

func (b book) has(goer int, e api.Entry) bool {
	for _, one := range b.got[goer] {
		if one == e {
			return true
		}
	}
	return false
}

// leastFree is what would be taken, if there is something.
func (b book) leastFree() (least api.Entry, found bool) {
	for e, name := range b.is {
		if name == "free" && (!found || e.Slab < least.Slab) {
			least, found = e, true
		}
	}
	return least, found
}

func (b book) goodBy(w api.Watch) bool {
	return b.pinned[w.Goer] && b.has(w.Goer, w.Entry) && (b.is[w.Entry] == "live" || b.is[w.Entry] == "retired" && w.Kind == 4)
}

func (b book) holdersBy(e api.Entry) (l []int) {
	for goer := range b.goers {
		if b.has(goer, e) {
			l = append(l, goer)
		}
	}
	return l
}

func (b book) safeBy(e api.Entry) bool {
	return (b.is[e] == "live" || b.is[e] == "retired") && len(b.holdersBy(e)) == 0
}

// why is an error, and when it is told.
type why struct {
	e    api.Errno
	when func(b book, w api.Watch) bool
}

func noGoer(b book, w api.Watch) bool { return w.Goer < 0 || w.Goer > b.goers-1 }
func isPinned(b book, w api.Watch) bool {
	return b.pinned[w.Goer]
}
func notPinned(b book, w api.Watch) bool { return !b.pinned[w.Goer] }
func notLive(b book, w api.Watch) bool   { return b.is[w.Entry] != "live" }
func isGone(b book, w api.Watch) bool {
	return b.is[w.Entry] != "live" && b.is[w.Entry] != "retired"
}
func isLast(_ book, w api.Watch) bool { return w.Entry.Gen == lastGen }
func noneFree(b book, _ api.Watch) bool {
	_, found := b.leastFree()
	return !found
}

func isNoEntry(_ book, w api.Watch) bool { return !isEntryBy(w.Entry) }

func isEntryBy(e api.Entry) bool { return e.Slab >= 0 && e.Slab <= 127 && e.Gen>>40 == 0 }

// reasons are the errors of each Kind, in order, as the document says them.
var reasons = map[int][]why{
	1: {{api.ErrArg, noGoer}, {api.ErrThere, isPinned}},
	2: {{api.ErrArg, noGoer}, {api.ErrNone, notPinned}},
	3: {{api.ErrArg, noGoer}, {api.ErrArg, isNoEntry}, {api.ErrNone, notPinned}},
	4: {{api.ErrArg, noGoer}, {api.ErrArg, isNoEntry}, {api.ErrNone, notPinned}},
	5: {{api.ErrArg, noGoer}, {api.ErrArg, isNoEntry}, {api.ErrNone, notPinned}},
	6: {{api.ErrArg, noGoer}, {api.ErrNone, notPinned}, {api.ErrFull, noneFree}},
	7: {{api.ErrArg, noGoer}, {api.ErrArg, isNoEntry}, {api.ErrNone, notLive}},
	8: {{api.ErrArg, noGoer}, {api.ErrArg, isNoEntry}, {api.ErrNone, isGone}, {api.ErrFull, isLast}},
}

// doBy changes the book, unless that is an error; and tells what was taken, if something was.
func (b *book) doBy(w api.Watch) (l []api.Entry, e api.Errno) {
	list, known := reasons[w.Kind]
	if !known {
		return nil, api.ErrWatch
	}
	for _, one := range list {
		if one.when(*b, w) {
			return nil, one.e
		}
	}
	switch w.Kind {
	case 1:
		b.pinned[w.Goer] = true
	case 2:
		delete(b.pinned, w.Goer)
		delete(b.got, w.Goer)
	case 3:
		b.gets(w.Goer, w.Entry)
	case 4, 5:
		if !b.goodBy(w) && len(b.bad) < mostBad {
			b.bad = append(b.bad, w)
		}
	case 6:
		e, _ := b.leastFree()
		b.is[e] = "live"
		b.gets(w.Goer, e)
		return []api.Entry{e}, api.OK
	case 7:
		b.is[w.Entry] = "retired"
	case 8:
		delete(b.is, w.Entry)
		b.is[api.Entry{Slab: w.Entry.Slab, Gen: w.Entry.Gen + 1}] = "free"
	}
	return nil, api.OK
}

func (b *book) gets(goer int, e api.Entry) {
	if !b.has(goer, e) {
		b.got[goer] = append(b.got[goer], e)
	}
}

// runBy is what comes of a monitor that may be by all of these.
func runBy(m api.Monitor, l []api.Watch) (api.Monitor, []api.Entry, api.Errno) {
	b := bookOf(m)
	var taken []api.Entry
	for _, w := range l {
		more, e := b.doBy(w)
		if e != api.OK {
			return api.Monitor{}, nil, e
		}
		taken = append(taken, more...)
	}
	return b.monitor(), taken, api.OK
}

// read is the monitor that texts tell: the slabs, such as "f0 l7 r^", each with its generation, of which ^ is the last; of each goroutine "-", or "+", if it is Pinned, and the entries that it has, such as "+ 0:7 1:^".
func read(slabs string, goers ...string) (m api.Monitor) {
	for _, word := range strings.Fields(slabs) {
		m.Arena.Slabs = append(m.Arena.Slabs, api.Slab{Tag: strings.Index("flr", word[:1]), Gen: readGen(word[1:])})
	}
	for _, text := range goers {
		m.Pinned = append(m.Pinned, text[:1] == "+")
		m.Has = append(m.Has, list(text[1:]))
	}
	return m
}

// with is the monitor that has these bad touches, too.
func with(m api.Monitor, bad ...api.Watch) api.Monitor {
	m = copied(m)
	m.Bad = append(m.Bad, bad...)
	return m
}

// list are the entries that a text tells, such as "0:7 1:^".
func list(text string) (l []api.Entry) {
	for _, word := range strings.Fields(text) {
		l = append(l, entry(word))
	}
	return l
}

// entry is the one that a word tells, such as "0:7": its slab, and its generation; none is that of the slab 0, Gen 0.
func entry(word string) api.Entry {
	if word == "" {
		return api.Entry{}
	}
	slab, gen, _ := strings.Cut(word, ":")
	n, err := strconv.Atoi(slab)
	if err != nil {
		panic(err)
	}
	return api.Entry{Slab: n, Gen: readGen(gen)}
}

func readGen(text string) uint64 {
	if text == "^" {
		return lastGen
	}
	gen, err := strconv.ParseUint(text, 10, 64)
	if err != nil {
		panic(err)
	}
	return gen
}

var kindNames = map[string]int{"pin": 1, "unpin": 2, "get": 3, "read": 4, "write": 5, "take": 6, "retire": 7, "give": 8}

// watch is what a text tells, such as "1 read 0:7": by whom, of which Kind, and the entry, if it asks for one.
func watch(text string) api.Watch {
	words := append(strings.Fields(text), "")
	goer, err := strconv.Atoi(words[0])
	if err != nil || kindNames[words[1]] == 0 {
		panic(text)
	}
	return api.Watch{Kind: kindNames[words[1]], Goer: goer, Entry: entry(words[2])}
}

// watches are those that a text tells, with commas between.
func watches(text string) (l []api.Watch) {
	for one := range strings.SplitSeq(text, ",") {
		if one != "" {
			l = append(l, watch(one))
		}
	}
	return l
}

// touches are so many bad ones, all different, that one of the goroutines may have made.
func touches(many, goers int) (l []api.Watch) {
	for n := range many {
		l = append(l, api.Watch{Kind: 4 + n%2, Goer: n % goers, Entry: api.Entry{Slab: n * 7 % mostSlabs, Gen: uint64(n)}})
	}
	return l
}

// chance are numbers that come to the same with each run of a test.
type chance uint64

func (c *chance) word() uint64 {
	*c ^= *c << 13
	*c ^= *c >> 7
	*c ^= *c << 17
	return uint64(*c) * 0x2545f4914f6cdd1d
}

func (c *chance) below(n int) int { return int(c.word() >> 33 % uint64(n)) }

func one[T any](c *chance, l []T) T { return l[c.below(len(l))] }

// small are monitors of two slabs, each of all tags and generations at both edges, and of two goroutines that have, or have not, what is meant, what was, and what never is.
func small() (l []api.Monitor) {
	var kinds []api.Slab
	for tag := range 3 {
		for _, gen := range []uint64{0, 1, lastGen} {
			kinds = append(kinds, api.Slab{Tag: tag, Gen: gen})
		}
	}
	for _, s := range kinds {
		for _, v := range kinds {
			one, two := api.Entry{Slab: 0, Gen: s.Gen}, api.Entry{Slab: 1, Gen: v.Gen}
			was, far := api.Entry{Slab: 0, Gen: s.Gen ^ 1}, api.Entry{Slab: 127, Gen: lastGen}
			firsts := [][]api.Entry{nil, {}, {one}, {two}, {was}, {two, one}, {far, one, was, two}}
			for n, first := range firsts {
				for k, second := range [][]api.Entry{nil, {}, {one, two}} {
					m := api.Monitor{Arena: api.Arena{Slabs: []api.Slab{s, v}}, Pinned: []bool{n > 0, k > 0}, Has: [][]api.Entry{slices.Clone(first), slices.Clone(second)}}
					m.Bad = touches([]int{0, 1, mostBad - 1, mostBad}[len(l)%4], 2)
					l = append(l, m)
				}
			}
		}
	}
	return l
}

// wide are monitors of all numbers of goroutines, and of more slabs, up to the most, by chance.
func wide() (l []api.Monitor) {
	c := chance(12)
	for goers := 1; goers <= mostGoers; goers++ {
		for _, slabs := range []int{2, 3, 5, 40, 127, 128} {
			for range 8 {
				l = append(l, c.monitor(goers, slabs))
			}
		}
	}
	return l
}

func (c *chance) monitor(goers, slabs int) (m api.Monitor) {
	tags := [][]int{{0, 1, 2}, {0}, {1}, {2}, {1, 2}, {0, 1, 1, 1, 2}}[c.below(6)]
	for range slabs {
		m.Arena.Slabs = append(m.Arena.Slabs, api.Slab{Tag: one(c, tags), Gen: one(c, []uint64{0, 1, lastGen - 1, lastGen, 7, c.word() >> 24})})
	}
	for range goers {
		var has []api.Entry
		looks := c.below(4) > 0
		for range c.below(6) {
			if e := c.entry(m); looks && isEntryBy(e) && !slices.Contains(has, e) {
				has = append(has, e)
			}
		}
		m.Pinned, m.Has = append(m.Pinned, looks), append(m.Has, has)
	}
	m.Bad = touches(one(c, []int{0, 0, 1, 2, mostBad - 1, mostBad, c.below(mostBad)}), goers)
	return m
}

// entry is one that is meant, most often; or one beside it, or one of no slab, or none.
func (c *chance) entry(m api.Monitor) api.Entry {
	slab := c.below(len(m.Arena.Slabs))
	e := api.Entry{Slab: slab, Gen: m.Arena.Slabs[slab].Gen}
	switch c.below(10) {
	case 0:
		e.Gen++
	case 1:
		e.Gen--
	case 2:
		e.Slab = one(c, []int{-1, 127, 128, len(m.Arena.Slabs)})
	}
	return e
}

// entriesNear are one for each of few slabs, as it is meant, of the generations beside it, and of others; such as the arena has no slab for; and what are no entries.
func entriesNear(m api.Monitor) (l []api.Entry) {
	for slab := 0; slab < len(m.Arena.Slabs); slab += 1 + len(m.Arena.Slabs)/4 {
		gen := m.Arena.Slabs[slab].Gen
		for _, gen := range []uint64{gen, gen - 1, gen + 1} {
			l = append(l, api.Entry{Slab: slab, Gen: gen})
		}
	}
	return append(append(l, api.Entry{Slab: len(m.Arena.Slabs)}, api.Entry{Slab: 127, Gen: lastGen}), noEntries()...)
}

// noEntries are of no slab that there ever is, or of no generation.
func noEntries() (l []api.Entry) {
	for _, slab := range []int{-1, -2, 128, 129, 1 << 16, 1 << 32, 1<<32 + 1, -1 << 32, math.MinInt, math.MaxInt} {
		l = append(l, api.Entry{Slab: slab}, api.Entry{Slab: slab, Gen: lastGen})
	}
	for _, gen := range []uint64{lastGen + 1, lastGen + 2, 1 << 41, 1 << 63, math.MaxInt64, math.MaxUint64} {
		l = append(l, api.Entry{Gen: gen}, api.Entry{Slab: 1, Gen: gen}, api.Entry{Slab: 127, Gen: gen})
	}
	return l
}

// noKinds are of nothing that is watched.
var noKinds = []int{0, -1, -2, -8, 9, 10, 16, 255, 1 << 32, 1<<32 + 1, -1 << 32, math.MinInt, math.MinInt + 1, math.MaxInt}

// noGoers are numbers of goroutines of which there are none among so many.
func noGoers(goers int) []int {
	return []int{-1, -2, -goers, goers, goers + 1, 8, 9, 1 << 32, 1<<32 + 1, -1 << 32, math.MinInt, math.MinInt + 1, math.MaxInt}
}

// noMonitors are such as may not be.
func noMonitors() (l []api.Monitor) {
	l = append(l, api.Monitor{})
	good := func() api.Monitor { return read("f0 l1 r2", "+ 0:0 1:1", "-", "+", "+ 1:1 2:2 0:0 5:5") }
	bad := func(change func(m *api.Monitor)) {
		for _, touched := range []int{0, 3} {
			m := with(good(), touches(touched, 4)...)
			change(&m)
			l = append(l, m)
		}
	}
	// by their arena
	for _, slabs := range []string{"", "f0", "l1", "f0 l1099511627776", "r18446744073709551615 f0 f0", strings.Repeat("f0 ", 129)} {
		bad(func(m *api.Monitor) { m.Arena = read(slabs).Arena })
	}
	for _, tag := range []int{-1, 3, math.MaxInt} {
		bad(func(m *api.Monitor) { m.Arena.Slabs[2].Tag = tag })
	}
	// by the numbers of Pinned and Has
	for _, many := range [][2]int{{0, 0}, {0, 1}, {1, 0}, {1, 2}, {2, 1}, {8, 7}, {7, 8}, {8, 9}, {9, 8}, {9, 9}, {10, 10}, {256, 256}, {0, 8}, {8, 0}} {
		l = append(l, api.Monitor{Arena: good().Arena, Pinned: make([]bool, many[0]), Has: make([][]api.Entry, many[1])})
	}
	bad(func(m *api.Monitor) { m.Pinned = m.Pinned[:3] })
	bad(func(m *api.Monitor) { m.Has = m.Has[:3] })
	bad(func(m *api.Monitor) { m.Has = append(m.Has, nil) })
	// by what they have
	for _, goer := range []int{0, 3} {
		bad(func(m *api.Monitor) { m.Has[goer] = append(m.Has[goer], m.Has[goer][0]) })
		bad(func(m *api.Monitor) { m.Has[goer] = append([]api.Entry{m.Has[goer][1]}, m.Has[goer]...) })
		bad(func(m *api.Monitor) { m.Pinned[goer] = false })
		for _, e := range noEntries() {
			bad(func(m *api.Monitor) { m.Has[goer] = append(m.Has[goer], e) })
			bad(func(m *api.Monitor) { m.Has[goer][0] = e })
		}
	}
	bad(func(m *api.Monitor) { m.Has[1] = list("0:0") })
	bad(func(m *api.Monitor) { m.Has[1] = list("3:3 4:4") })
	// by what Bad holds, and how much
	for _, w := range noTouches(4) {
		bad(func(m *api.Monitor) { m.Bad = append(m.Bad, w) })
		bad(func(m *api.Monitor) { m.Bad = append([]api.Watch{w}, m.Bad...) })
		bad(func(m *api.Monitor) { m.Bad = append(m.Bad, append([]api.Watch{w}, touches(2, 4)...)...) })
	}
	for _, many := range []int{mostBad + 1, mostBad + 2, 100, 1 << 12} {
		l = append(l, with(good(), touches(many, 4)...))
	}
	return l
}

// noTouches are such as nobody of so many goroutines can have made badly.
func noTouches(goers int) (l []api.Watch) {
	for _, kind := range append([]int{1, 2, 3, 6, 7, 8}, noKinds...) {
		l = append(l, api.Watch{Kind: kind, Goer: 1, Entry: entry("1:1")})
	}
	for _, goer := range noGoers(goers) {
		l = append(l, api.Watch{Kind: 4, Goer: goer, Entry: entry("1:1")}, api.Watch{Kind: 5, Goer: goer})
	}
	for _, e := range noEntries() {
		l = append(l, api.Watch{Kind: 4, Entry: e}, api.Watch{Kind: 5, Goer: goers - 1, Entry: e})
	}
	return l
}

// mayBy is whether a monitor may be, as the document's words say it.
func mayBy(m api.Monitor) bool {
	for _, s := range m.Arena.Slabs {
		if s.Tag < 0 || s.Tag > 2 || s.Gen>>40 != 0 {
			return false
		}
	}
	if len(m.Arena.Slabs) < 2 || len(m.Arena.Slabs) > mostSlabs || len(m.Pinned) < 1 || len(m.Pinned) > mostGoers || len(m.Pinned) != len(m.Has) || len(m.Bad) > mostBad {
		return false
	}
	for goer, row := range m.Has {
		for n, e := range row {
			if !m.Pinned[goer] || !isEntryBy(e) || slices.Index(row, e) != n {
				return false
			}
		}
	}
	for _, w := range m.Bad {
		if w.Kind != 4 && w.Kind != 5 || w.Goer < 0 || w.Goer >= len(m.Pinned) || !isEntryBy(w.Entry) {
			return false
		}
	}
	return true
}

// copied is the same monitor, with rows of its own.
func copied(m api.Monitor) api.Monitor {
	m.Arena.Slabs, m.Pinned, m.Has, m.Bad = slices.Clone(m.Arena.Slabs), slices.Clone(m.Pinned), slices.Clone(m.Has), slices.Clone(m.Bad)
	for goer, row := range m.Has {
		m.Has[goer] = slices.Clone(row)
	}
	return m
}

// alone is whether a monitor has exactly these parts.
func alone(got, want api.Monitor) bool {
	if len(got.Has) != len(want.Has) {
		return false
	}
	for goer, row := range got.Has {
		if !slices.Equal(row, want.Has[goer]) {
			return false
		}
	}
	return slices.Equal(got.Arena.Slabs, want.Arena.Slabs) && slices.Equal(got.Pinned, want.Pinned) && slices.Equal(got.Bad, want.Bad)
}

// nothing is whether a monitor is the zero one.
func nothing(m api.Monitor) bool {
	return m.Arena.Slabs == nil && m.Pinned == nil && m.Has == nil && m.Bad == nil
}

// TestRules: the monitors that are tried are those that they are said to be.
func TestRules(t *testing.T) {
	goers, slabs, bads := map[int]int{}, map[int]int{}, map[int]int{}
	for _, m := range append(small(), wide()...) {
		if !mayBy(m) || !alone(bookOf(m).monitor(), m) {
			t.Fatalf("%v may not be", m)
		}
		goers[len(m.Pinned)]++
		slabs[len(m.Arena.Slabs)]++
		bads[len(m.Bad)]++
	}
	if len(goers) != mostGoers || slabs[mostSlabs] == 0 || bads[0] == 0 || bads[mostBad-1] == 0 || bads[mostBad] == 0 {
		t.Errorf("goroutines %v, slabs %v, bad touches %v", goers, slabs, bads)
	}
	for _, m := range noMonitors() {
		if mayBy(m) {
			t.Errorf("%v may be", m)
		}
	}
	if api.MaxGen != lastGen || api.MaxGoers != mostGoers || api.MaxSlabs != mostSlabs || api.MaxBad != mostBad {
		t.Error("the limits are not those of the document")
	}
}
