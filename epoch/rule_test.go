package epoch_test

import (
	"math"
	"slices"
	"strconv"
	"strings"
	"testing"

	"honeycomb/api"
)

// The last epoch, how many goroutines and slabs there may be, and the last generation of a slab, as the document's words say it.
const (
	lastEpoch  = 4611686018427387904
	mostGoers  = 8
	leastSlabs = 2
	mostSlabs  = 128
	lastGen    = 1099511627775
)

// aged is a slab that waits, and how many epochs ago it was retired.
type aged struct {
	slab int
	age  uint64
}

// book is a reclaim by another way than the package's: there is one epoch; slabs that wait are those that are retired, and nothing else is. What the document says is tried on it.
type book struct {
	epoch uint64
	goers int
	pins  map[int]uint64 // of each goroutine that pins an epoch how old that is
	gens  []uint64
	live  map[int]bool
	waits []aged // the oldest first
}

func newBook(epoch uint64, goers, slabs int) book {
	return book{epoch: epoch, goers: goers, pins: map[int]uint64{}, gens: make([]uint64, slabs), live: map[int]bool{}}
}

// bookOf is that of a reclaim that may be.
func bookOf(r api.Reclaim) book {
	b := newBook(r.Pins.Epoch, len(r.Pins.Slots), len(r.Arena.Slabs))
	for goer, slot := range r.Pins.Slots {
		if slot > 0 {
			b.pins[goer] = b.epoch - (slot - 1)
		}
	}
	for slab, s := range r.Arena.Slabs {
		b.gens[slab] = s.Gen
		if s.Tag == api.SlLive {
			b.live[slab] = true
		}
	}
	for age := uint64(2); age < 3; age-- {
		if age > b.epoch {
			continue
		}
		for _, e := range r.Limbo.Rows[(b.epoch-age)%3] {
			b.waits = append(b.waits, aged{e.Slab, age})
		}
	}
	return b
}

func (b book) entry(slab int) api.Entry { return api.Entry{Slab: slab, Gen: b.gens[slab]} }

func (b book) reclaim() api.Reclaim {
	r := api.Reclaim{Pins: api.Pins{Epoch: b.epoch, Slots: make([]uint64, b.goers)}, Limbo: api.Limbo{Epoch: b.epoch}}
	for goer, age := range b.pins {
		r.Pins.Slots[goer] = b.epoch - age + 1
	}
	for slab, gen := range b.gens {
		is := api.Slab{Gen: gen}
		if b.live[slab] {
			is.Tag = api.SlLive
		}
		r.Arena.Slabs = append(r.Arena.Slabs, is)
	}
	for _, a := range b.waits {
		r.Arena.Slabs[a.slab].Tag = api.SlRetired
		row := (b.epoch - a.age) % 3
		r.Limbo.Rows[row] = append(r.Limbo.Rows[row], b.entry(a.slab))
	}
	return r
}

func (b book) doesWait(slab int) bool {
	return slices.ContainsFunc(b.waits, func(a aged) bool { return a.slab == slab })
}

// of is what waits and was retired so many epochs ago.
func (b book) of(age uint64) (l []api.Entry) {
	for _, a := range b.waits {
		if a.age == age {
			l = append(l, b.entry(a.slab))
		}
	}
	return l
}

func (b book) held() (l []api.Entry) { return slices.Concat(b.of(2), b.of(1), b.of(0)) }

// leastFree is the least slab that is free, if one is.
func (b book) leastFree() (int, bool) {
	for slab := range b.gens {
		if !b.live[slab] && !b.doesWait(slab) {
			return slab, true
		}
	}
	return 0, false
}

// isLive is whether an entry is.
func (b book) isLive(e api.Entry) bool {
	return e.Slab > -1 && e.Slab < len(b.gens) && b.live[e.Slab] && b.gens[e.Slab] == e.Gen
}

// why is an error, and when it is told.
type why struct {
	e    api.Errno
	when func(b book, o api.EpochOp) bool
}

func noGoer(b book, o api.EpochOp) bool { return o.Goer < 0 || o.Goer > b.goers-1 }
func doesPin(b book, o api.EpochOp) bool {
	_, pins := b.pins[o.Goer]
	return pins
}
func pinsNone(b book, o api.EpochOp) bool { return !doesPin(b, o) }
func isFar(b book, o api.EpochOp) bool    { return o.By > b.epoch }
func isFull(b book, _ api.EpochOp) bool {
	_, free := b.leastFree()
	return !free
}
func notLive(b book, o api.EpochOp) bool   { return !b.isLive(o.Entry) }
func ofLastGen(b book, o api.EpochOp) bool { return o.Entry.Gen == lastGen }
func noneReady(b book, _ api.EpochOp) bool { return len(b.of(2)) == 0 }
func readyOfLastGen(b book, _ api.EpochOp) bool {
	return b.of(2)[0].Gen == lastGen
}
func someReady(b book, _ api.EpochOp) bool { return len(b.of(2)) > 0 }
func isHeld(b book, _ api.EpochOp) bool {
	for _, age := range b.pins {
		if age > 0 {
			return true
		}
	}
	return false
}
func isLast(b book, _ api.EpochOp) bool { return b.epoch == lastEpoch }

// reasons are the errors of each kind, in order, as the document says them.
var reasons = map[int][]why{
	1: {{api.ErrArg, noGoer}, {api.ErrThere, doesPin}, {api.ErrNone, isFar}},
	2: {{api.ErrArg, noGoer}, {api.ErrNone, pinsNone}},
	3: {{api.ErrFull, isFull}},
	4: {{api.ErrNone, notLive}, {api.ErrFull, ofLastGen}},
	5: {{api.ErrNone, notLive}},
	6: {{api.ErrNone, noneReady}, {api.ErrFull, readyOfLastGen}},
	7: {{api.ErrReady, someReady}, {api.ErrHeld, isHeld}, {api.ErrFull, isLast}},
}

// doBy changes the book, unless that is an error, and tells an entry, if one is told.
func (b *book) doBy(o api.EpochOp) ([]api.Entry, api.Errno) {
	list, known := reasons[o.Kind]
	if !known {
		return nil, api.ErrEpOp
	}
	for _, one := range list {
		if one.when(*b, o) {
			return nil, one.e
		}
	}
	switch o.Kind {
	case 1:
		b.pins[o.Goer] = o.By
	case 2:
		delete(b.pins, o.Goer)
	case 3:
		slab, _ := b.leastFree()
		b.live[slab] = true
		return []api.Entry{b.entry(slab)}, api.OK
	case 4:
		delete(b.live, o.Entry.Slab)
		b.gens[o.Entry.Slab]++
	case 5:
		delete(b.live, o.Entry.Slab)
		b.waits = append(b.waits, aged{o.Entry.Slab, 0})
	case 6:
		first := b.of(2)[0]
		b.waits = slices.DeleteFunc(b.waits, func(a aged) bool { return a.slab == first.Slab })
		b.gens[first.Slab]++
		return []api.Entry{first}, api.OK
	case 7:
		b.epoch++
		for goer := range b.goers {
			if _, pins := b.pins[goer]; pins {
				b.pins[goer]++
			}
		}
		for n := range b.waits {
			b.waits[n].age++
		}
	}
	return nil, api.OK
}

// runBy is what comes of a reclaim that may be by all of these.
func runBy(r api.Reclaim, l []api.EpochOp) (api.Reclaim, []api.Entry, int, api.Errno) {
	b := bookOf(r)
	var told []api.Entry
	var passed []api.EpochOp
	for _, o := range l {
		more, e := b.doBy(o)
		if e == api.ErrEpOp {
			return api.Reclaim{}, nil, 0, e
		}
		if told = append(told, more...); e != api.OK {
			passed = append(passed, o)
		}
	}
	return b.reclaim(), told, len(passed), api.OK
}

// freeBy is what is given back while that has no error.
func (b *book) freeBy() (given []api.Entry) {
	for {
		more, e := b.doBy(api.EpochOp{Kind: 6})
		if e != api.OK {
			return given
		}
		given = append(given, more...)
	}
}

func (b *book) tryBy() ([]api.Entry, bool) {
	given := b.freeBy()
	if _, e := b.doBy(api.EpochOp{Kind: 7}); e != api.OK {
		return given, false
	}
	return append(given, b.freeBy()...), true
}

func (b *book) settleBy() ([]api.Entry, api.Errno) {
	if len(b.pins) > 0 {
		return nil, api.ErrHeld
	}
	var given []api.Entry
	for goes := true; goes && len(b.waits) > 0; {
		var more []api.Entry
		more, goes = b.tryBy()
		given = append(given, more...)
	}
	return given, api.OK
}

// number is what a word tells; "^" is the last one, "^-1" one less.
func number(word string, last uint64) uint64 {
	less, fromLast := strings.CutPrefix(word, "^")
	if fromLast && less == "" {
		return last
	}
	if fromLast {
		return last - number(less[1:], last)
	}
	n, err := strconv.ParseUint(word, 10, 64)
	if err != nil {
		panic(err)
	}
	return n
}

// read is the reclaim that a text tells, such as "5 - 4 | f l3 r^ r | 2; 3; ": the epoch, and of each goroutine which one it pins, or "-"; of each slab whether it is free, live, or retired, and its generation, if that is not 0; which slabs were retired two epochs ago, one ago, and in it. "^" is the last epoch, or generation.
func read(text string) api.Reclaim {
	if text == "" {
		return api.Reclaim{}
	}
	parts := append(strings.Split(text, "|"), "")
	words, slabs := strings.Fields(parts[0]), strings.Fields(parts[1])
	b := newBook(number(words[0], lastEpoch), len(words)-1, len(slabs))
	for goer, word := range words[1:] {
		if word != "-" {
			b.pins[goer] = b.epoch - number(word, lastEpoch)
		}
	}
	retired := 0
	for slab, word := range slabs {
		if len(word) > 1 {
			b.gens[slab] = number(word[1:], lastGen)
		}
		if word[0] == 'l' {
			b.live[slab] = true
		}
		if word[0] == 'r' {
			retired++
		}
	}
	for n, row := range strings.Split(parts[2], ";") {
		for word := range strings.FieldsSeq(row) {
			slab := int(number(word, 0))
			if slabs[slab][0] != 'r' {
				panic(text)
			}
			b.waits = append(b.waits, aged{slab, uint64(2 - n)})
		}
	}
	if len(b.waits) != retired {
		panic(text)
	}
	return b.reclaim()
}

// entries are those that a text tells, such as "1 2.7 3.^": slabs, some with their Gen, "^" being the last one.
func entries(text string) (l []api.Entry) {
	for word := range strings.FieldsSeq(text) {
		slab, gen, has := strings.Cut(word, ".")
		n, err := strconv.Atoi(slab)
		if err != nil {
			panic(err)
		}
		e := api.Entry{Slab: n}
		if has {
			e.Gen = number(gen, lastGen)
		}
		l = append(l, e)
	}
	return l
}

func entry(text string) api.Entry { return entries(text)[0] }

// op is what a text tells, such as "1 pin 2", "1 pin", which is by 0, "1 unpin", "take", "back 2.7", "retire 2", "free", "go", or "none 8", which is of the kind 8.
func op(text string) api.EpochOp {
	words := append(strings.Fields(text), "0", "0")
	switch words[0] {
	case "take":
		return api.EpochOp{Kind: 3}
	case "back":
		return api.EpochOp{Kind: 4, Entry: entry(words[1])}
	case "retire":
		return api.EpochOp{Kind: 5, Entry: entry(words[1])}
	case "free":
		return api.EpochOp{Kind: 6}
	case "go":
		return api.EpochOp{Kind: 7}
	case "none":
		return api.EpochOp{Kind: int(number(words[1], 0))}
	}
	kind := map[string]int{"pin": 1, "unpin": 2}[words[1]]
	goer, err := strconv.Atoi(words[0])
	if err != nil || kind == 0 {
		panic(text)
	}
	return api.EpochOp{Kind: kind, Goer: goer, By: number(words[2], lastEpoch)}
}

// ops are those that a text tells, with commas between.
func ops(text string) (l []api.EpochOp) {
	for one := range strings.SplitSeq(text, ",") {
		if one != "" {
			l = append(l, op(strings.TrimSpace(one)))
		}
	}
	return l
}

// chance are numbers that come to the same with each run of a test.
type chance uint64

func (c *chance) word() uint64 {
	*c ^= *c << 13
	*c ^= *c >> 7
	*c ^= *c << 17
	return uint64(*c) * 0x2545f4914f6cdd1d
}

func (c *chance) below(n int) int { return int(c.word() >> 33 % uint64(n)) }

func one[T any](c *chance, l []T) T { return l[c.below(len(l))] }

// edges are the epochs that the document names, and some between, of each number that is left of them, divided by 3.
var edges = []uint64{0, 1, 2, 3, 4, 1 << 32, 1<<62 - 3, 1<<62 - 2, 1<<62 - 1, 1 << 62}

// gensOf are generations at the edges.
var gensOf = []uint64{0, 0, 1, 5, lastGen - 1, lastGen}

// agesAt are how old what a goroutine pins may be.
func agesAt(epoch uint64) []uint64 {
	return []uint64{0, min(1, epoch), min(2, epoch), epoch}
}

// shaped is a reclaim of which each slab is free, live, or was retired so many epochs ago, by a number's digits; how it is otherwise is left to chance.
func (c *chance) shaped(epoch uint64, slabs, shape int) book {
	b := newBook(epoch, 1+c.below(3), slabs)
	for _, slab := range c.order(slabs) {
		b.gens[slab] = one(c, gensOf)
		digit := shape
		for range slab {
			digit /= 5
		}
		switch is := digit % 5; is {
		case 0:
		case 1:
			b.live[slab] = true
		default:
			b.waits = append(b.waits, aged{slab, min(uint64(is-2), epoch)})
		}
	}
	b.sort()
	b.pinned(c)
	return b
}

// sort puts what was retired longest ago ahead of all else.
func (b *book) sort() {
	slices.SortStableFunc(b.waits, func(x, y aged) int { return int(y.age) - int(x.age) })
}

// pinned makes none, some, or all of the goroutines pin, or all of them the epoch that is.
func (b *book) pinned(c *chance) {
	way := c.below(4)
	for goer := range b.goers {
		switch {
		case way == 1 && c.below(2) == 0, way == 2:
			b.pins[goer] = one(c, agesAt(b.epoch))
		case way == 3:
			b.pins[goer] = 0
		}
	}
}

// order are the numbers below n, in some order.
func (c *chance) order(n int) (l []int) {
	for k := range n {
		l = append(l, k)
		other := c.below(k + 1)
		l[k], l[other] = l[other], l[k]
	}
	return l
}

// small are reclaims at the edges, of two and three slabs, each of them free, live, and retired in each epoch.
func small() (l []api.Reclaim) {
	c := chance(29)
	for _, epoch := range edges {
		for shape := range 25 {
			l = append(l, c.shaped(epoch, 2, shape).reclaim(), c.shaped(epoch, 2, shape).reclaim())
		}
		for shape := range 125 {
			l = append(l, c.shaped(epoch, 3, shape).reclaim())
		}
	}
	return l
}

// wide are reclaims of few and of many slabs and goroutines, by chance, of which none, some, and all wait.
func wide() (l []api.Reclaim) {
	c := chance(13)
	for _, epoch := range append([]uint64{6, 7, 1000, c.word() >> 2, c.word() >> 30}, edges...) {
		for _, slabs := range []int{2, 5, 20, 64, mostSlabs - 1, mostSlabs} {
			ages := one(&c, [][]uint64{{0}, {0, 1}, {0, 1, 2}, {0, 2}, {1, 2}, {2}, {1}})
			for often := range 4 { // 0: none waits; 3: all do
				b := newBook(epoch, 1+c.below(mostGoers), slabs)
				for _, slab := range c.order(slabs) {
					b.gens[slab] = c.word() >> (24 + c.below(40))
					if c.below(3) < often {
						b.waits = append(b.waits, aged{slab, min(one(&c, ages), epoch)})
					} else if c.below(2) == 0 {
						b.live[slab] = true
					}
				}
				b.sort()
				b.pinned(&c)
				l = append(l, b.reclaim())
			}
		}
	}
	return l
}

// noKinds are of nothing that is done.
var noKinds = []int{0, -1, -2, -7, 8, 9, 14, 255, 256 + 1, 1 << 32, 1<<32 + 1, -1 << 32, math.MinInt, math.MinInt + 1, math.MaxInt}

// noGoers are numbers of goroutines of which there are none among so many.
func noGoers(goers int) []int {
	return []int{-1, -goers, goers, goers + 1, 8, 9, 1 << 32, math.MinInt, math.MaxInt}
}

// noSlabs are numbers of which there is no slab among so many.
func noSlabs(slabs int) []int {
	return []int{-1, -slabs, slabs, slabs + 1, 128, 129, 1 << 32, math.MinInt, math.MaxInt}
}

// changed is a reclaim of its own, in which something is otherwise.
func changed(r api.Reclaim, change func(r *api.Reclaim)) api.Reclaim {
	r = copied(r)
	change(&r)
	return r
}

// plains are reclaims that may be, of which such are made as may not.
func plains() []api.Reclaim {
	return []api.Reclaim{
		read("5 - 4 5 | f3 l1 r2 r r7 l | 2; 3; 4"),
		read("6 - | r r^ l f | 1 0; ; "),
		read("0 0 | r l | ; ; 0"),
		read("1 - - | l f | ; ; "),
		read("^ - ^ | r l r1 | ; 0; 2"),
		read("^-1 - | r r r | 2; 1; 0"),
		read("7 7 | l l | "),
	}
}

// noReclaims are such as may not be.
func noReclaims() (l []api.Reclaim) {
	l = append(l, api.Reclaim{}, api.Reclaim{Arena: api.Arena{Slabs: make([]api.Slab, 2)}}, api.Reclaim{Pins: api.Pins{Slots: make([]uint64, 1)}})
	for _, plain := range plains() {
		l = append(l, byArena(plain)...)
		l = append(l, byPins(plain)...)
		l = append(l, byLimbo(plain)...)
		l = append(l, byWhole(plain)...)
	}
	return l
}

// byArena are such as may not be by their Arena.
func byArena(plain api.Reclaim) (l []api.Reclaim) {
	add := func(change func(r *api.Reclaim)) { l = append(l, changed(plain, change)) }
	for _, many := range []int{0, 1, 129, 130, 256} {
		add(func(r *api.Reclaim) { r.Arena.Slabs, r.Limbo.Rows = make([]api.Slab, many), [3][]api.Entry{} })
	}
	for slab, is := range plain.Arena.Slabs {
		for _, tag := range []int{-1, 3, 256, math.MinInt} {
			add(func(r *api.Reclaim) { r.Arena.Slabs[slab].Tag = tag })
		}
		if is.Tag == api.SlRetired {
			continue
		}
		for _, gen := range []uint64{1 << 40, 1<<40 + 1, 1 << 63, math.MaxUint64} {
			add(func(r *api.Reclaim) { r.Arena.Slabs[slab].Gen = gen })
		}
	}
	return l
}

// byPins are such as may not be by their Pins.
func byPins(plain api.Reclaim) (l []api.Reclaim) {
	add := func(change func(r *api.Reclaim)) { l = append(l, changed(plain, change)) }
	for _, many := range []int{0, 9, 10, 256} {
		add(func(r *api.Reclaim) { r.Pins.Slots = make([]uint64, many) })
	}
	for goer := range plain.Pins.Slots {
		for _, slot := range []uint64{plain.Pins.Epoch + 2, plain.Pins.Epoch + 3, 1 << 63, math.MaxUint64} {
			add(func(r *api.Reclaim) { r.Pins.Slots[goer] = slot })
		}
	}
	for _, epoch := range []uint64{lastEpoch + 1, lastEpoch + 2, 1 << 63, math.MaxUint64} {
		add(func(r *api.Reclaim) { r.Pins.Epoch, r.Limbo.Epoch = epoch, epoch }) // both the same
		add(func(r *api.Reclaim) { r.Pins.Epoch = epoch })
	}
	return l
}

// byLimbo are such as may not be by their Limbo.
func byLimbo(plain api.Reclaim) (l []api.Reclaim) {
	add := func(change func(r *api.Reclaim)) { l = append(l, changed(plain, change)) }
	for n, row := range plain.Limbo.Rows {
		for place, e := range row {
			add(func(r *api.Reclaim) { r.Limbo.Rows[n] = slices.Insert(r.Limbo.Rows[n], place, e) }) // twice
			add(func(r *api.Reclaim) { r.Limbo.Rows[(n+1)%3] = append(r.Limbo.Rows[(n+1)%3], e) })
			add(func(r *api.Reclaim) {
				r.Limbo.Rows[n] = append(r.Limbo.Rows[n], api.Entry{Slab: e.Slab, Gen: e.Gen ^ 1})
			})
			add(func(r *api.Reclaim) { // as the arena says it
				r.Arena.Slabs[e.Slab].Gen, r.Limbo.Rows[n][place].Gen = 1<<40, 1<<40
			})
			add(func(r *api.Reclaim) { r.Limbo.Rows[n][place].Slab = -1 })
			add(func(r *api.Reclaim) { r.Limbo.Rows[n][place].Slab = 128 })
		}
		if plain.Limbo.Epoch < uint64(n) {
			add(func(r *api.Reclaim) { // of an epoch that there was not
				r.Arena.Slabs[1].Tag = api.SlRetired
				r.Limbo.Rows = [3][]api.Entry{}
				r.Arena.Slabs[0].Tag = api.SlFree
				r.Limbo.Rows[n] = []api.Entry{{Slab: 1, Gen: r.Arena.Slabs[1].Gen}}
			})
		}
	}
	for _, epoch := range []uint64{lastEpoch + 1, 1 << 63, math.MaxUint64} {
		add(func(r *api.Reclaim) { r.Limbo.Epoch = epoch })
	}
	for _, wrong := range [][]api.Entry{{{Slab: -1}}, {{Slab: 128}}, {{Gen: 1 << 40}}, {{Slab: 1}, {Slab: 1}}} {
		add(func(r *api.Reclaim) { r.Limbo.Rows[plain.Limbo.Epoch%3] = wrong }) // also of such as have no retired slab
	}
	return l
}

// byWhole are such as may not be, though their parts may.
func byWhole(plain api.Reclaim) (l []api.Reclaim) {
	add := func(change func(r *api.Reclaim)) { l = append(l, changed(plain, change)) }
	epoch := plain.Limbo.Epoch
	for _, other := range []uint64{epoch + 1, epoch + 2, epoch + 3, epoch + 6, epoch - 1, epoch - 3, lastEpoch} {
		if other != epoch && other <= lastEpoch {
			add(func(r *api.Reclaim) { r.Limbo.Epoch = other })
			add(func(r *api.Reclaim) { r.Pins.Epoch = other })
		}
	}
	now := epoch % 3
	for slab, is := range plain.Arena.Slabs {
		for _, tag := range []int{api.SlFree, api.SlLive, api.SlRetired} {
			if (tag == api.SlRetired) != (is.Tag == api.SlRetired) { // nothing of it waits, or something of it does
				add(func(r *api.Reclaim) { r.Arena.Slabs[slab].Tag = tag })
			}
		}
		for _, gen := range []uint64{is.Gen - 1, is.Gen + 1, 0, lastGen} {
			if is.Tag == api.SlRetired && gen != is.Gen && gen <= lastGen { // of an old Gen, or one that is to come
				add(func(r *api.Reclaim) { r.Arena.Slabs[slab].Gen = gen })
			}
		}
		if is.Tag != api.SlRetired { // of none that is retired
			add(func(r *api.Reclaim) {
				r.Limbo.Rows[now] = append(r.Limbo.Rows[now], api.Entry{Slab: slab, Gen: is.Gen})
			})
			add(func(r *api.Reclaim) {
				r.Limbo.Rows[now] = slices.Insert(r.Limbo.Rows[now], 0, api.Entry{Slab: slab, Gen: is.Gen})
			})
		}
	}
	for n, row := range plain.Limbo.Rows {
		for place := range row {
			add(func(r *api.Reclaim) { r.Limbo.Rows[n] = slices.Delete(r.Limbo.Rows[n], place, place+1) })
			add(func(r *api.Reclaim) { r.Limbo.Rows[n][place].Gen ^= 1 })
			for slab, is := range plain.Arena.Slabs { // as many wait as are retired
				if is.Tag != api.SlRetired {
					add(func(r *api.Reclaim) { r.Limbo.Rows[n][place] = api.Entry{Slab: slab, Gen: is.Gen} })
				}
			}
		}
	}
	for _, slab := range []int{len(plain.Arena.Slabs), 127} { // that there is not
		add(func(r *api.Reclaim) { r.Limbo.Rows[now] = append(r.Limbo.Rows[now], api.Entry{Slab: slab}) })
	}
	return l
}

// mayBy is whether a reclaim may be, as the document's words say it, part by part.
func mayBy(r api.Reclaim) bool {
	return arenaMay(r.Arena) && pinsMay(r.Pins) && limboMay(r.Limbo) && r.Limbo.Epoch == r.Pins.Epoch && wholeMay(r)
}

func arenaMay(a api.Arena) bool {
	for _, s := range a.Slabs {
		if s.Tag != api.SlFree && s.Tag != api.SlLive && s.Tag != api.SlRetired || s.Gen > lastGen {
			return false
		}
	}
	return len(a.Slabs) >= leastSlabs && len(a.Slabs) <= mostSlabs
}

func pinsMay(p api.Pins) bool {
	for _, slot := range p.Slots {
		if slot > 0 && slot-1 > p.Epoch {
			return false
		}
	}
	return p.Epoch <= lastEpoch && len(p.Slots) > 0 && len(p.Slots) <= mostGoers
}

func limboMay(l api.Limbo) bool {
	slabs := map[int]int{}
	for n, row := range l.Rows {
		if len(row) > 0 && l.Epoch < 2 && uint64(n) > l.Epoch {
			return false
		}
		for _, e := range row {
			if slabs[e.Slab]++; slabs[e.Slab] > 1 || e.Slab < 0 || e.Slab >= mostSlabs || e.Gen > lastGen {
				return false
			}
		}
	}
	return l.Epoch <= lastEpoch
}

// wholeMay is whether just those wait that are retired.
func wholeMay(r api.Reclaim) bool {
	many := map[api.Entry]int{}
	for slab, s := range r.Arena.Slabs {
		if s.Tag == api.SlRetired {
			many[api.Entry{Slab: slab, Gen: s.Gen}]++
		}
	}
	for _, row := range r.Limbo.Rows {
		for _, e := range row {
			many[e] += 2
		}
	}
	for _, n := range many {
		if n != 3 {
			return false
		}
	}
	return true
}

// copied is the same reclaim, with slabs, slots, and rows of its own.
func copied(r api.Reclaim) api.Reclaim {
	r.Arena.Slabs, r.Pins.Slots = slices.Clone(r.Arena.Slabs), slices.Clone(r.Pins.Slots)
	for n, row := range r.Limbo.Rows {
		r.Limbo.Rows[n] = slices.Clone(row)
	}
	return r
}

// alone is whether a reclaim has exactly these parts.
func alone(got, want api.Reclaim) bool {
	return slices.Equal(got.Arena.Slabs, want.Arena.Slabs) &&
		got.Pins.Epoch == want.Pins.Epoch && slices.Equal(got.Pins.Slots, want.Pins.Slots) && got.Limbo.Epoch == want.Limbo.Epoch &&
		slices.Equal(got.Limbo.Rows[0], want.Limbo.Rows[0]) && slices.Equal(got.Limbo.Rows[1], want.Limbo.Rows[1]) && slices.Equal(got.Limbo.Rows[2], want.Limbo.Rows[2])
}

// nothing is whether a reclaim is the zero one.
func nothing(r api.Reclaim) bool {
	return alone(r, api.Reclaim{}) && r.Arena.Slabs == nil && r.Pins.Slots == nil &&
		r.Limbo.Rows[0] == nil && r.Limbo.Rows[1] == nil && r.Limbo.Rows[2] == nil
}

// roomy is the same reclaim, with room behind the end of each list in which something stands; and all of it.
func roomy(r api.Reclaim) (own, rooms api.Reclaim) {
	own, rooms = r, copied(r)
	rooms.Arena.Slabs = append(rooms.Arena.Slabs, api.Slab{Tag: 1, Gen: 95}, api.Slab{Gen: 94})
	rooms.Pins.Slots = append(rooms.Pins.Slots, 1, 77)
	own.Arena.Slabs, own.Pins.Slots = rooms.Arena.Slabs[:len(r.Arena.Slabs)], rooms.Pins.Slots[:len(r.Pins.Slots)]
	for n, row := range r.Limbo.Rows {
		rooms.Limbo.Rows[n] = append(rooms.Limbo.Rows[n], api.Entry{Slab: 99, Gen: 98}, api.Entry{Slab: 97, Gen: 96})
		own.Limbo.Rows[n] = rooms.Limbo.Rows[n][:len(row)]
	}
	return own, rooms
}

// lists are those of a reclaim: each puts one list of another one in its place.
var lists = []func(r *api.Reclaim, by api.Reclaim){
	func(r *api.Reclaim, by api.Reclaim) { r.Arena.Slabs = by.Arena.Slabs },
	func(r *api.Reclaim, by api.Reclaim) { r.Pins.Slots = by.Pins.Slots },
	func(r *api.Reclaim, by api.Reclaim) { r.Limbo.Rows[0] = by.Limbo.Rows[0] },
	func(r *api.Reclaim, by api.Reclaim) { r.Limbo.Rows[1] = by.Limbo.Rows[1] },
	func(r *api.Reclaim, by api.Reclaim) { r.Limbo.Rows[2] = by.Limbo.Rows[2] },
}

// spoil changes all that a list holds, and the room behind its end.
func spoil[T any](l []T, with T) {
	l = l[:cap(l)]
	for n := range l {
		l[n] = with
	}
}

func spoilAll(r api.Reclaim) {
	spoil(r.Arena.Slabs, api.Slab{Tag: -9, Gen: 9})
	spoil(r.Pins.Slots, 999)
	for _, row := range r.Limbo.Rows {
		spoil(row, api.Entry{Slab: -9, Gen: 9})
	}
}

// holdMemory: what is told of a reclaim is memory of its own, list by list, and what is handed in is neither changed, up to the ends of its rooms, nor kept.
func holdMemory(t *testing.T, name string, plain api.Reclaim, does func(r api.Reclaim) (api.Reclaim, []api.Entry)) {
	t.Helper()
	r, rooms := roomy(plain)
	was := copied(rooms)
	again, toldAgain := does(r)
	want, wantTold := copied(again), slices.Clone(toldAgain)
	for n, put := range lists {
		got, told := does(r)
		var list api.Reclaim
		put(&list, got)
		spoilAll(list)
		put(&got, want)
		if !alone(got, want) || !slices.Equal(told, wantTold) {
			t.Fatalf("%s: the list %d is part of what else was told: %v, %v", name, n, got, told)
		}
	}
	got, told := does(r)
	spoil(told, api.Entry{Slab: -9, Gen: 9})
	if !alone(got, want) {
		t.Fatalf("%s: what was told is part of the reclaim: %v, not %v", name, got, want)
	}
	if !alone(rooms, was) || !alone(r, plain) || !alone(again, want) || !slices.Equal(toldAgain, wantTold) {
		t.Fatalf("%s: what was told is what was handed in, or was told ahead of it: %v, %v, %v", name, rooms, again, toldAgain)
	}
	spoilAll(rooms)
	if !alone(again, want) || !slices.Equal(toldAgain, wantTold) {
		t.Fatalf("%s: what was told is what was handed in: %v, not %v", name, again, want)
	}
}

// TestRules: the reclaims that are tried are those that they are said to be.
func TestRules(t *testing.T) {
	epochs, goers, slabs, back := map[uint64]int{}, map[int]int{}, map[int]int{}, map[string]int{}
	waits, rows := map[int]int{}, map[[3]int]int{}
	for _, r := range append(small(), wide()...) {
		b := bookOf(r)
		if !mayBy(r) || !alone(b.reclaim(), r) {
			t.Fatalf("%v may not be", r)
		}
		epochs[b.epoch]++
		goers[b.goers]++
		slabs[len(b.gens)]++
		waits[len(b.waits)]++
		switch {
		case len(b.pins) == 0:
			back["none pins"]++
		case isHeld(b, api.EpochOp{}):
			back["held"]++
		default:
			back["not held"]++
		}
		for age := range 3 {
			rows[[3]int{int(b.epoch % 3), age, min(2, len(b.of(uint64(age))))}]++
		}
	}
	for _, epoch := range edges {
		if epochs[epoch] < 100 {
			t.Errorf("the epoch %d: only %d times", epoch, epochs[epoch])
		}
	}
	for left := range 3 {
		for age := range 3 {
			for size := range 3 {
				if n := rows[[3]int{left, age, size}]; n < 20 {
					t.Errorf("%d left of the epoch, %d epochs ago, %d entries: only %d times", left, age, size, n)
				}
			}
		}
	}
	if len(goers) != mostGoers || slabs[leastSlabs] < 100 || slabs[mostSlabs] < 20 || waits[0] < 50 || waits[mostSlabs] < 5 || len(waits) < 20 || back["none pins"] < 100 || back["held"] < 100 || back["not held"] < 100 {
		t.Errorf("so many goroutines %v, slabs %v, that wait %v, that pin %v", goers, slabs, waits, back)
	}
	for _, r := range plains() {
		if !mayBy(r) {
			t.Errorf("%v may not be", r)
		}
	}
	for n, r := range noReclaims() {
		if mayBy(r) {
			t.Errorf("%v may be, the one of the number %d of those that may not", r, n)
		}
	}
	if api.MaxEpoch != lastEpoch || api.MaxGoers != mostGoers || api.LeastSlab != leastSlabs || api.MaxSlabs != mostSlabs || api.MaxGen != lastGen || api.Buckets != 3 {
		t.Error("the limits are not those of the document")
	}
}
