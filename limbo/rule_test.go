package limbo_test

import (
	"math"
	"slices"
	"strconv"
	"strings"
	"testing"

	"honeycomb/api"
)

// The last epoch, how many slabs there are, and the last generation of one, as the document's words say it.
const (
	lastEpoch = 4611686018427387904
	mostSlabs = 128
	lastGen   = 1099511627775
)

// aged is an entry that waits, and how many epochs ago it was retired.
type aged struct {
	api.Entry
	age uint64
}

// book is a limbo by another way than the package's: all that waits, the oldest first. What the document says is tried on it.
type book struct {
	epoch uint64
	waits []aged
}

// bookOf is that of a limbo that may be.
func bookOf(l api.Limbo) book {
	b := book{epoch: l.Epoch}
	for age := uint64(2); age < 3; age-- {
		if age > l.Epoch {
			continue
		}
		for _, e := range l.Rows[(l.Epoch-age)%3] {
			b.waits = append(b.waits, aged{e, age})
		}
	}
	return b
}

func (b book) limbo() api.Limbo {
	l := api.Limbo{Epoch: b.epoch}
	for _, a := range b.waits {
		at := (b.epoch - a.age) % 3
		l.Rows[at] = append(l.Rows[at], a.Entry)
	}
	return l
}

// of is what waits and was retired so many epochs ago.
func (b book) of(age uint64) (l []api.Entry) {
	for _, a := range b.waits {
		if a.age == age {
			l = append(l, a.Entry)
		}
	}
	return l
}

func (b book) held() (l []api.Entry) {
	for _, a := range b.waits {
		l = append(l, a.Entry)
	}
	return l
}

func (b book) whenBy(slab int) (uint64, bool) {
	for _, a := range b.waits {
		if a.Slab == slab {
			return b.epoch - a.age, true
		}
	}
	return 0, false
}

func mayWait(e api.Entry) bool {
	return e.Slab > -1 && e.Slab <= mostSlabs-1 && e.Gen < lastGen+1
}

// retireBy changes the book, unless that is an error; so do all of these.
func (b *book) retireBy(e api.Entry) api.Errno {
	if !mayWait(e) {
		return api.ErrArg
	}
	if _, waits := b.whenBy(e.Slab); waits {
		return api.ErrThere
	}
	b.waits = append(slices.Clone(b.waits), aged{e, 0})
	return api.OK
}

func (b *book) advanceBy() api.Errno {
	if len(b.of(2)) > 0 {
		return api.ErrReady
	}
	if b.epoch == lastEpoch {
		return api.ErrFull
	}
	b.epoch++
	b.waits = slices.Clone(b.waits)
	for n := range b.waits {
		b.waits[n].age++
	}
	return api.OK
}

func (b *book) takeBy() (api.Entry, api.Errno) {
	ready := b.of(2)
	if len(ready) == 0 {
		return api.Entry{}, api.ErrNone
	}
	b.waits = slices.DeleteFunc(slices.Clone(b.waits), func(a aged) bool { return a.Entry == ready[0] })
	return ready[0], api.OK
}

// runBy is what comes of a limbo that may be by all steps.
func runBy(l api.Limbo, steps []api.Entry) (api.Limbo, []api.Entry, api.Errno) {
	b := bookOf(l)
	var taken []api.Entry
	for _, step := range steps {
		var e api.Errno
		if step.Slab < 0 {
			for len(b.of(2)) > 0 {
				one, _ := b.takeBy()
				taken = append(taken, one)
			}
			e = b.advanceBy()
		} else {
			e = b.retireBy(step)
		}
		if e != api.OK {
			return api.Limbo{}, nil, e
		}
	}
	return b.limbo(), taken, api.OK
}

// read is the limbo that a text tells, such as "5: 1 2.7; ; 3": the Epoch; what was retired two epochs ago, one ago, and in it. "^" is the last epoch, "^-1" one less; the slab 2 has Gen 7 there, the others 0.
func read(text string) api.Limbo {
	if text == "" {
		return api.Limbo{}
	}
	epoch, rest, _ := strings.Cut(text, ":")
	b := book{epoch: number(epoch, lastEpoch)}
	for n, row := range strings.Split(rest, ";") {
		for _, e := range entries(row) {
			b.waits = append(b.waits, aged{e, uint64(2 - n)})
		}
	}
	return b.limbo()
}

// number is what a word tells; "^" is the last one, "^-1" one less, "^+1" one more.
func number(word string, last uint64) uint64 {
	part, fromLast := strings.CutPrefix(word, "^")
	switch {
	case part == "" && fromLast:
		return last
	case fromLast && part[0] == '-':
		return last - number(part[1:], last)
	case fromLast:
		return last + number(part[1:], last)
	}
	n, err := strconv.ParseUint(word, 10, 64)
	if err != nil {
		panic(err)
	}
	return n
}

// entries are those that a text tells, such as "1 2.7 3.^ on": slabs, some with their Gen, "^" being the last one, or that the epoch goes on.
func entries(text string) (l []api.Entry) {
	for word := range strings.FieldsSeq(text) {
		slab, gen, has := strings.Cut(word, ".")
		if slab == "on" {
			slab = "-1"
		}
		n, err := strconv.Atoi(slab)
		if err != nil {
			panic(err)
		}
		e := api.Entry{Slab: n}
		if has {
			e.Gen = number(gen, lastGen)
		}
		l = append(l, e)
	}
	return l
}

func entry(text string) api.Entry { return entries(text)[0] }

// chance are numbers that come to the same with each run of a test.
type chance uint64

func (c *chance) word() uint64 {
	*c ^= *c << 13
	*c ^= *c >> 7
	*c ^= *c << 17
	return uint64(*c) * 0x2545f4914f6cdd1d
}

func (c *chance) below(n int) int { return int(c.word() >> 33 % uint64(n)) }

func one[T any](c *chance, l []T) T { return l[c.below(len(l))] }

// edges are the Epochs that the document names, and some between, of each number that is left of them, divided by 3.
var edges = []uint64{0, 1, 2, 3, 4, 5, 1 << 32, 1<<32 + 1, 1<<62 - 3, 1<<62 - 2, 1<<62 - 1, 1 << 62}

// pool are entries at the edges, and some between.
var pool = []api.Entry{
	{Slab: 0}, {Slab: 127, Gen: lastGen}, {Slab: 5, Gen: 1}, {Slab: 64, Gen: lastGen - 1}, {Slab: 1},
	{Slab: 126, Gen: 77}, {Slab: 2, Gen: lastGen}, {Slab: 100, Gen: 1 << 39}, {Slab: 63}, {Slab: 3, Gen: 9},
}

// small are limbos at the edges, each row of which has none, one, or many entries.
func small() (l []api.Limbo) {
	turn := 0
	for _, epoch := range edges {
		for shape := range 27 {
			b := book{epoch: epoch}
			turn++
			for n, many := range []int{shape / 9, shape / 3 % 3, shape % 3} {
				for range many * (many + 1) / 2 {
					b.waits = append(b.waits, aged{pool[(turn*7+len(b.waits))%len(pool)], uint64(2 - n)})
				}
			}
			if !slices.ContainsFunc(b.waits, func(a aged) bool { return a.age > epoch }) {
				l = append(l, b.limbo())
			}
		}
	}
	return l
}

// slabs are all slabs there are, in some order, of some generations.
func (c *chance) slabs() (l []api.Entry) {
	for slab := range mostSlabs {
		l = append(l, api.Entry{Slab: slab, Gen: one(c, []uint64{0, 1, lastGen, c.word() >> 24, c.word() >> 40})})
	}
	for n := range l {
		other := n + c.below(len(l)-n)
		l[n], l[other] = l[other], l[n]
	}
	return l
}

// wide are limbos of some, many, and all slabs, by chance.
func wide() (l []api.Limbo) {
	c := chance(13)
	for _, epoch := range append([]uint64{6, 7, 1000, c.word() >> 2, c.word() >> 30}, edges...) {
		for _, many := range []int{1, 2, 5, 20, 64, mostSlabs - 1, mostSlabs, c.below(mostSlabs), c.below(mostSlabs)} {
			ages := one(&c, [][]uint64{{0}, {1, 0}, {2, 1, 0}, {2, 0}, {2, 1}, {2}, {1}})
			if slices.Max(ages) > epoch {
				ages = []uint64{epoch}
			}
			b := book{epoch: epoch}
			for n, e := range c.slabs()[:many] {
				b.waits = append(b.waits, aged{e, ages[n*len(ages)/many]})
			}
			l = append(l, b.limbo())
		}
	}
	return l
}

// noSlabs are numbers of which there is no slab.
var noSlabs = []int{-1, -2, -127, -128, 128, 129, 255, 256, 1 << 32, 1<<32 + 1, -1 << 32, math.MinInt, math.MinInt + 1, math.MaxInt}

// noGens are numbers of which there is no generation.
var noGens = []uint64{1 << 40, 1<<40 + 1, 1 << 41, 1 << 63, 1<<63 + 1, math.MaxInt64, math.MaxUint64 - 1, math.MaxUint64}

// noEntries are such as there are not.
func noEntries() (l []api.Entry) {
	for _, slab := range noSlabs {
		l = append(l, api.Entry{Slab: slab}, api.Entry{Slab: slab, Gen: lastGen}, api.Entry{Slab: slab, Gen: 1 << 40})
	}
	for _, gen := range noGens {
		l = append(l, api.Entry{Gen: gen}, api.Entry{Slab: 77, Gen: gen}, api.Entry{Slab: 127, Gen: gen})
	}
	return l
}

// with is a limbo in whose row an entry stands besides, at a place.
func with(l api.Limbo, row, place int, e api.Entry) api.Limbo {
	l = copied(l)
	l.Rows[row] = slices.Insert(l.Rows[row], place, e)
	return l
}

// noLimbos are such as may not be.
func noLimbos() (l []api.Limbo) {
	// by the Epoch
	for _, epoch := range []uint64{lastEpoch + 1, lastEpoch + 2, lastEpoch + 3, 1 << 63, math.MaxInt64, math.MaxUint64 - 2, math.MaxUint64 - 1, math.MaxUint64} {
		l = append(l, api.Limbo{Epoch: epoch})
		for row := range 3 {
			l = append(l, with(api.Limbo{Epoch: epoch}, row, 0, api.Entry{Slab: 4}))
		}
	}
	// by an entry, or another one of its Slab, at each place
	for _, plain := range []api.Limbo{read("2: 1 2 3; 4 5 6; 7 8 9"), read("6: 1 2; ; 3.^"), read("^: ; 1 2 3; "), read("0: ; ; 1 2 3"), read("1: ; ; "), read("^-1: 1; ; ")} {
		wrong := noEntries()
		for n, row := range plain.Rows {
			if plain.Epoch >= uint64(n) && len(row) > 0 {
				wrong = append(wrong, row[0], row[len(row)-1], api.Entry{Slab: row[len(row)/2].Slab, Gen: 5})
			}
		}
		for n, row := range plain.Rows {
			for place := 0; plain.Epoch >= uint64(n) && place <= len(row); place++ {
				for _, e := range wrong {
					l = append(l, with(plain, n, place, e))
				}
			}
		}
	}
	// by a row of an epoch that there was not
	for _, e := range []api.Entry{{}, {Slab: 127, Gen: lastGen}, {Slab: 9}} {
		for _, plain := range []api.Limbo{{}, read("0: ; ; 5"), read("0: ; ; 5 6 7")} {
			l = append(l, with(plain, 1, 0, e), with(plain, 2, 0, e), with(with(plain, 1, 0, e), 2, 0, api.Entry{Slab: 3}))
		}
		for _, plain := range []api.Limbo{{Epoch: 1}, read("1: ; 5; "), read("1: ; ; 5 6"), read("1: ; 7; 5 6")} {
			l = append(l, with(plain, 2, 0, e), with(with(plain, 2, 0, e), 2, 0, api.Entry{Slab: 3}))
		}
	}
	// by many
	c := chance(3)
	full := c.slabs()
	twice := append(slices.Clone(full), full...)
	l = append(l, api.Limbo{Epoch: 3, Rows: [3][]api.Entry{twice, nil, nil}}, api.Limbo{Epoch: 4, Rows: [3][]api.Entry{full, nil, full}},
		api.Limbo{Epoch: 5, Rows: [3][]api.Entry{{full[5]}, full, nil}}, api.Limbo{Epoch: 6, Rows: [3][]api.Entry{nil, make([]api.Entry, 1<<16), nil}})
	return l
}

// mayBy is whether a limbo may be, as the document's words say it.
func mayBy(l api.Limbo) bool {
	if l.Epoch > lastEpoch {
		return false
	}
	there := map[int]bool{} // the rows of epochs that there were
	for age := range uint64(3) {
		if age <= l.Epoch {
			there[int((l.Epoch-age)%3)] = true
		}
	}
	slabs := map[int]int{}
	for n, row := range l.Rows {
		if len(row) > 0 && !there[n] {
			return false
		}
		for _, e := range row {
			if slabs[e.Slab]++; !mayWait(e) || slabs[e.Slab] > 1 {
				return false
			}
		}
	}
	return true
}

// copied is the same limbo, with rows of its own.
func copied(l api.Limbo) api.Limbo {
	for n, row := range l.Rows {
		l.Rows[n] = slices.Clone(row)
	}
	return l
}

// alone is whether a limbo has exactly these parts.
func alone(got, want api.Limbo) bool {
	return got.Epoch == want.Epoch && slices.Equal(got.Rows[0], want.Rows[0]) && slices.Equal(got.Rows[1], want.Rows[1]) && slices.Equal(got.Rows[2], want.Rows[2])
}

// nothing is whether a limbo is the zero one.
func nothing(l api.Limbo) bool {
	return l.Epoch == 0 && l.Rows[0] == nil && l.Rows[1] == nil && l.Rows[2] == nil
}

// roomy is the same limbo, with room behind the end of each row in which something stands; and all of it.
func roomy(l api.Limbo) (own, rooms api.Limbo) {
	own, rooms = l, l
	for n, row := range l.Rows {
		rooms.Rows[n] = append(slices.Clone(row), api.Entry{Slab: 99, Gen: 98}, api.Entry{Slab: 97, Gen: 96})
		own.Rows[n] = rooms.Rows[n][:len(row)]
	}
	return own, rooms
}

// spoil changes all entries of rows, and the room behind their ends.
func spoil(rows ...[]api.Entry) {
	for _, row := range rows {
		row = row[:cap(row)]
		for n := range row {
			row[n] = api.Entry{Slab: -9, Gen: 9}
		}
	}
}

// TestRules: the limbos that are tried are those that they are said to be.
func TestRules(t *testing.T) {
	epochs, rows, many := map[uint64]int{}, map[[3]int]int{}, map[int]int{}
	for _, l := range append(small(), wide()...) {
		if !mayBy(l) || !alone(bookOf(l).limbo(), l) {
			t.Fatalf("%v may not be", l)
		}
		epochs[l.Epoch]++
		b := bookOf(l)
		many[len(b.waits)]++
		for age := range 3 {
			rows[[3]int{int(l.Epoch % 3), age, min(2, len(b.of(uint64(age))))}]++
		}
	}
	for _, epoch := range edges {
		if epochs[epoch] < 10 {
			t.Errorf("the Epoch %d: only %d times", epoch, epochs[epoch])
		}
	}
	for left := range 3 {
		for age := range 3 {
			for size := range 3 {
				if n := rows[[3]int{left, age, size}]; n < 20 {
					t.Errorf("%d left of the Epoch, %d epochs ago, %d entries: only %d times", left, age, size, n)
				}
			}
		}
	}
	if len(many) < 20 || many[mostSlabs] < 10 {
		t.Errorf("so many wait: %v", many)
	}
	for _, l := range noLimbos() {
		if mayBy(l) {
			t.Errorf("%v may be", l)
		}
	}
	for _, e := range noEntries() {
		if mayWait(e) {
			t.Errorf("%v is an entry", e)
		}
	}
	if api.MaxEpoch != lastEpoch || api.MaxSlabs != mostSlabs || api.MaxGen != lastGen || api.Buckets != 3 {
		t.Error("the limits are not those of the document")
	}
}
