package pins_test

import (
	"math"
	"math/big"
	"slices"
	"strconv"
	"strings"
	"testing"

	"honeycomb/api"
)

// The last epoch, and how many goroutines there may be, as the document's words say it.
const (
	lastEpoch = 4611686018427387904
	mostGoers = 8
)

// book is pins by another way than the package's: of each goroutine that pins an epoch how old that is. What the document says is tried on it.
type book struct {
	epoch uint64
	goers int
	age   map[int]uint64 // the Epoch's going on makes all of them older
}

// bookOf is that of pins that may be.
func bookOf(p api.Pins) book {
	b := book{p.Epoch, len(p.Slots), map[int]uint64{}}
	for goer, slot := range p.Slots {
		if slot > 0 {
			b.age[goer] = p.Epoch - (slot - 1)
		}
	}
	return b
}

func (b book) pins() api.Pins {
	p := api.Pins{Epoch: b.epoch, Slots: make([]uint64, b.goers)}
	for goer, age := range b.age {
		p.Slots[goer] = b.epoch - age + 1
	}
	return p
}

func (b book) backBy() (l []int) {
	for goer := range b.goers {
		if age, pins := b.age[goer]; pins && age > 0 {
			l = append(l, goer)
		}
	}
	return l
}

func (b book) oldestBy() (uint64, bool) {
	var ages []uint64
	for _, age := range b.age {
		ages = append(ages, age)
	}
	if len(ages) == 0 {
		return 0, false
	}
	return b.epoch - slices.Max(ages), true
}

// safeBy reckons with numbers that have no end.
func (b book) safeBy(epoch uint64) bool {
	left := new(big.Int).SetUint64(b.epoch)
	left.Sub(left, new(big.Int).SetUint64(epoch))
	return left.Cmp(big.NewInt(2)) >= 0
}

// why is an error, and when it is told.
type why struct {
	e    api.Errno
	when func(b book, o api.PinOp) bool
}

func noGoer(b book, o api.PinOp) bool { return o.Goer < 0 || o.Goer > b.goers-1 }
func doesPin(b book, o api.PinOp) bool {
	_, pins := b.age[o.Goer]
	return pins
}
func pinsNone(b book, o api.PinOp) bool { return !doesPin(b, o) }
func isFar(b book, o api.PinOp) bool    { return o.By > b.epoch }
func isHeld(b book, _ api.PinOp) bool   { return len(b.backBy()) > 0 }
func isLast(b book, _ api.PinOp) bool   { return b.epoch == lastEpoch }

// reasons are the errors of each kind, in order, as the document says them.
var reasons = map[int][]why{
	1: {{api.ErrArg, noGoer}, {api.ErrThere, doesPin}, {api.ErrNone, isFar}},
	2: {{api.ErrArg, noGoer}, {api.ErrNone, pinsNone}},
	3: {{api.ErrHeld, isHeld}, {api.ErrFull, isLast}},
}

// doBy changes the book, unless that is an error.
func (b *book) doBy(o api.PinOp) api.Errno {
	list, known := reasons[o.Kind]
	if !known {
		return api.ErrArg
	}
	for _, one := range list {
		if one.when(*b, o) {
			return one.e
		}
	}
	switch o.Kind {
	case 1:
		b.age[o.Goer] = o.By
	case 2:
		delete(b.age, o.Goer)
	case 3:
		b.epoch++
		for goer := range b.goers {
			if doesPin(*b, api.PinOp{Goer: goer}) {
				b.age[goer]++
			}
		}
	}
	return api.OK
}

// runBy is what comes of pins that may be by all of these.
func runBy(p api.Pins, l []api.PinOp) (api.Pins, int, api.Errno) {
	b := bookOf(p)
	var passed []api.PinOp
	for _, o := range l {
		e := b.doBy(o)
		if e == api.ErrArg {
			return api.Pins{}, 0, e
		}
		if e != api.OK {
			passed = append(passed, o)
		}
	}
	return b.pins(), len(passed), api.OK
}

// read are the pins that a text tells, such as "5 5 - 4": the Epoch, and of each goroutine which one it pins, or "-"; "^" is the last epoch, "^-1" one less.
func read(text string) (p api.Pins) {
	words := strings.Fields(text)
	if len(words) == 0 {
		return p
	}
	p.Epoch = number(words[0])
	for _, word := range words[1:] {
		if word == "-" {
			p.Slots = append(p.Slots, 0)
		} else {
			p.Slots = append(p.Slots, number(word)+1)
		}
	}
	return p
}

func number(word string) uint64 {
	less, fromLast := strings.CutPrefix(word, "^")
	if fromLast {
		if less == "" {
			return lastEpoch
		}
		return lastEpoch - number(less[1:])
	}
	n, err := strconv.ParseUint(word, 10, 64)
	if err != nil {
		panic(err)
	}
	return n
}

// op is what a text tells, such as "1 pin 2", "1 pin", which is by 0, "1 unpin", or "go".
func op(text string) api.PinOp {
	if text == "go" {
		return api.PinOp{Kind: 3}
	}
	words := append(strings.Fields(text), "0")
	goer, err := strconv.Atoi(words[0])
	kind := map[string]int{"pin": 1, "unpin": 2, "go": 3, "none": 4}[words[1]]
	if err != nil || kind == 0 {
		panic(text)
	}
	return api.PinOp{Kind: kind, Goer: goer, By: number(words[2])}
}

// ops are those that a text tells, with commas between.
func ops(text string) (l []api.PinOp) {
	for one := range strings.SplitSeq(text, ",") {
		if one != "" {
			l = append(l, op(one))
		}
	}
	return l
}

// chance are numbers that come to the same with each run of a test.
type chance uint64

func (c *chance) word() uint64 {
	*c ^= *c << 13
	*c ^= *c >> 7
	*c ^= *c << 17
	return uint64(*c) * 0x2545f4914f6cdd1d
}

func (c *chance) below(n int) int { return int(c.word() >> 33 % uint64(n)) }

func one[T any](c *chance, l []T) T { return l[c.below(len(l))] }

// edges are the Epochs that the document names, and some between.
var edges = []uint64{0, 1, 2, 3, 4, 1 << 32, 1<<62 - 1, 1 << 62}

// slotsAt are what a goroutine may have at an Epoch: none, the Epoch, one less, two less, and 0 and 1.
func slotsAt(epoch uint64) (l []uint64) {
	l = append(l, 0, epoch+1)
	for _, slot := range []uint64{epoch, epoch - 1, 1, 2} {
		if slot >= 1 && slot <= epoch+1 && !slices.Contains(l, slot) {
			l = append(l, slot)
		}
	}
	return l
}

// small are all pins of up to three goroutines at the edges.
func small() (l []api.Pins) {
	for _, epoch := range edges {
		rows := [][]uint64{{}}
		for range 3 {
			var longer [][]uint64
			for _, row := range rows {
				for _, slot := range slotsAt(epoch) {
					longer = append(longer, append(slices.Clone(row), slot))
				}
			}
			rows = longer
			for _, row := range rows {
				l = append(l, api.Pins{Epoch: epoch, Slots: row})
			}
		}
	}
	return l
}

// wide are pins of all numbers of goroutines, by chance; and such as all hold back, all pin without, and none pins.
func wide() (l []api.Pins) {
	c := chance(13)
	for goers := 1; goers <= mostGoers; goers++ {
		for _, epoch := range append([]uint64{7, 1000, c.word() >> 2, c.word() >> 30}, edges...) {
			for _, slots := range [][]uint64{{0}, {epoch + 1}, {epoch}, {1}, {0, epoch + 1}, slotsAt(epoch), {0, 1 + c.word()%(epoch+1), 1 + c.word()%(epoch+1)}} {
				p := api.Pins{Epoch: epoch}
				for range goers {
					p.Slots = append(p.Slots, one(&c, slots))
				}
				l = append(l, p)
			}
		}
	}
	return l
}

// noKinds are of nothing that pins undergo.
var noKinds = []int{0, -1, -2, -3, 4, 5, 8, 255, 1 << 32, 1<<32 + 1, -1 << 32, math.MinInt, math.MinInt + 1, math.MaxInt}

// noGoers are numbers of goroutines of which there are none among so many.
func noGoers(goers int) []int {
	return []int{-1, -2, -goers, goers, goers + 1, 8, 9, 1 << 32, 1<<32 + 1, -1 << 32, math.MinInt, math.MinInt + 1, math.MaxInt}
}

// farBys are by how much one may not pin ahead of an Epoch.
func farBys(epoch uint64) []uint64 {
	return []uint64{epoch + 1, epoch + 2, 1<<62 + 1, 1 << 63, 1<<63 + epoch, math.MaxUint64 - 1, math.MaxUint64}
}

// nearBys are by how much one may.
func nearBys(epoch uint64) (l []uint64) {
	l = append(l, 0, epoch)
	for _, by := range []uint64{1, 2, epoch - 1, epoch / 2} {
		if by <= epoch {
			l = append(l, by)
		}
	}
	return l
}

// noPins are such as may not be.
func noPins() (l []api.Pins) {
	l = append(l, api.Pins{}, api.Pins{Epoch: 5}, api.Pins{Epoch: lastEpoch, Slots: []uint64{}})
	// by the Epoch
	for _, epoch := range []uint64{lastEpoch + 1, lastEpoch + 2, 1 << 63, math.MaxInt64, math.MaxUint64 - 1, math.MaxUint64} {
		for _, slot := range []uint64{0, 1, 2, epoch, epoch + 1, lastEpoch + 1} {
			l = append(l, api.Pins{Epoch: epoch, Slots: []uint64{slot}}, api.Pins{Epoch: epoch, Slots: []uint64{0, slot, 0, 1}})
		}
	}
	// by a slot
	for _, epoch := range edges {
		for _, slot := range []uint64{epoch + 2, epoch + 3, epoch + 1<<62, lastEpoch + 2, 1 << 63, math.MaxInt64, math.MaxUint64 - 1, math.MaxUint64} {
			for goer := range mostGoers {
				p := api.Pins{Epoch: epoch, Slots: make([]uint64, mostGoers)}
				p.Slots[goer], p.Slots[(goer+3)%mostGoers] = slot, epoch+1
				l = append(l, p)
			}
			l = append(l, api.Pins{Epoch: epoch, Slots: []uint64{slot}}, api.Pins{Epoch: epoch, Slots: []uint64{slot, slot, slot}})
		}
	}
	// by the number of Slots
	for _, many := range []int{9, 10, 16, 255, 256, 257, 1 << 16} {
		full := make([]uint64, many)
		for n := range full {
			full[n] = 6
		}
		l = append(l, api.Pins{Slots: make([]uint64, many)}, api.Pins{Epoch: 5, Slots: full}, api.Pins{Epoch: lastEpoch, Slots: full})
	}
	return l
}

// mayBy is whether pins may be, as the document's words say it.
func mayBy(p api.Pins) bool {
	if p.Epoch > lastEpoch || len(p.Slots) == 0 || len(p.Slots) > mostGoers {
		return false
	}
	for _, slot := range p.Slots {
		if slot > 0 && slot-1 > p.Epoch {
			return false
		}
	}
	return true
}

// copied are the same pins, with slots of their own.
func copied(p api.Pins) api.Pins { return api.Pins{Epoch: p.Epoch, Slots: slices.Clone(p.Slots)} }

// alone is whether pins have exactly these parts.
func alone(got, want api.Pins) bool {
	return got.Epoch == want.Epoch && slices.Equal(got.Slots, want.Slots)
}

// nothing is whether pins are the zero ones.
func nothing(p api.Pins) bool { return p.Epoch == 0 && p.Slots == nil }

// TestRules: the pins that are tried are those that they are said to be.
func TestRules(t *testing.T) {
	goers, epochs, back := map[int]int{}, map[uint64]int{}, map[int]int{}
	for _, p := range append(small(), wide()...) {
		if !mayBy(p) || !alone(bookOf(p).pins(), p) {
			t.Fatalf("%v may not be", p)
		}
		goers[len(p.Slots)]++
		epochs[p.Epoch]++
		back[len(bookOf(p).backBy())]++
	}
	if len(goers) != mostGoers || len(back) != mostGoers+1 {
		t.Errorf("goroutines %v, of which so many hold back: %v", goers, back)
	}
	for _, epoch := range edges {
		if epochs[epoch] < 50 {
			t.Errorf("the Epoch %d: only %d times", epoch, epochs[epoch])
		}
	}
	for _, p := range noPins() {
		if mayBy(p) {
			t.Errorf("%v may be", p)
		}
	}
	if api.MaxEpoch != lastEpoch || api.MaxGoers != mostGoers {
		t.Error("the limits are not those of the document")
	}
}
