package pins_test

import (
	"math"
	"slices"
	"testing"

	"honeycomb/api"
	"honeycomb/pins"
)

// P13.1: each number of goroutines that there may be, and the edges beyond.
func TestNew(t *testing.T) {
	for goers := 1; goers <= 8; goers++ {
		p, e := pins.New(goers)
		if e != api.OK || !alone(p, api.Pins{Slots: make([]uint64, goers)}) || pins.Check(p) != api.OK {
			t.Errorf("New(%d): %v, %d", goers, p, e)
		}
	}
	for _, goers := range []int{0, -1, -2, -7, -8, 9, 10, 16, 255, 256, 257, 1 << 32, 1<<32 + 1, 1<<32 + 8, -1 << 32, math.MinInt, math.MinInt + 1, math.MaxInt} {
		if p, e := pins.New(goers); !nothing(p) || e != api.ErrArg {
			t.Errorf("New(%d): %v, %d, not ErrArg", goers, p, e)
		}
	}
}

// P13.1, R3: what New tells is new each time.
func TestNewIsNew(t *testing.T) {
	p, _ := pins.New(3)
	p.Epoch, p.Slots[1] = 7, 7
	if p, e := pins.New(3); e != api.OK || !alone(p, read("0 - - -")) {
		t.Errorf("New, again: %v, %d", p, e)
	}
}

// P13.1: ErrPins, or OK.
func TestCheck(t *testing.T) {
	for _, p := range append(small(), wide()...) {
		if e := pins.Check(p); e != api.OK {
			t.Fatalf("Check(%v): %d, not OK", p, e)
		}
	}
	for _, p := range noPins() {
		if e := pins.Check(p); e != api.ErrPins {
			t.Fatalf("Check(%v): %d, not ErrPins", p, e)
		}
	}
}

// P13.1: in numbers: the Epoch, the slots, and how many of them, at their edges.
func TestCheckInNumbers(t *testing.T) {
	for text, may := range map[string]bool{
		"":                                false,
		"0":                               false,
		"0 -":                             true,
		"0 0":                             true,
		"0 1":                             false,
		"1 0 1 -":                         true,
		"1 0 1 2":                         false,
		"1 2 0 1":                         false,
		"7 0 1 2 3 4 5 6 7":               true,
		"7 0 1 2 3 4 5 6 8":               false,
		"7 0 1 2 3 4 5 6 7 7":             false,
		"7 - - - - - - - -":               true,
		"7 - - - - - - - - -":             false,
		"^-1 ^-1 - 0":                     true,
		"^-1 ^ - 0":                       false,
		"^ ^ ^-1 0":                       true,
		"^":                               false,
		"^ 4611686018427387905":           false,
		"4611686018427387905 -":           false,
		"4611686018427387905 ^":           false,
		"18446744073709551615 -":          false,
		"5 18446744073709551614":          false, // which is the greatest slot of all
		"9223372036854775808 - 0 - 1 - -": false,
	} {
		if e := pins.Check(read(text)); (e == api.OK) != may || !may && e != api.ErrPins {
			t.Errorf("Check(%s): %d", text, e)
		}
	}
}

// P13.1: all pairs of few pins; those that may not be are asked as they stand, too.
func TestSame(t *testing.T) {
	var l []api.Pins
	for n, p := range append(small(), wide()...) {
		if n%5 == 0 {
			l = append(l, p)
		}
	}
	l = append(l, noPins()...)
	for n, p := range l {
		if !pins.Same(p, copied(p)) {
			t.Fatalf("%v are not the same as themselves", p)
		}
		for _, other := range l[:n] {
			if want := alone(p, other); pins.Same(p, other) != want || pins.Same(other, p) != want {
				t.Fatalf("Same(%v, %v), not %t", p, other, want)
			}
		}
	}
}

// P13.1: whatever part is another one, they are not the same; whether they may be, or not.
func TestSameOfEachPart(t *testing.T) {
	for _, p := range []api.Pins{{}, {Epoch: 3}, read("5 5 4 - 0"), read("^ ^ - 0"), read("0 7 7"), {Epoch: math.MaxUint64, Slots: make([]uint64, 20)}} {
		var others []api.Pins
		other := func(change func(p *api.Pins)) {
			o := copied(p)
			change(&o)
			others = append(others, o)
		}
		for bit := range 64 {
			other(func(p *api.Pins) { p.Epoch ^= 1 << bit })
			for n := range p.Slots {
				other(func(p *api.Pins) { p.Slots[n] ^= 1 << bit })
			}
		}
		for n := range p.Slots {
			other(func(p *api.Pins) { p.Slots = slices.Delete(p.Slots, n, n+1) })
		}
		other(func(p *api.Pins) { p.Slots = append(p.Slots, 0) })
		other(func(p *api.Pins) { p.Slots = slices.Insert(p.Slots, 0, 1) })
		for _, o := range others {
			if pins.Same(p, o) || pins.Same(o, p) {
				t.Errorf("Same(%v, %v)", p, o)
			}
		}
	}
}

// P13.1, R3: nil and empty lists are one, whatever room is behind them.
func TestSameOfNilAndEmpty(t *testing.T) {
	l := []api.Pins{{Epoch: 4}, {Epoch: 4, Slots: []uint64{}}, {Epoch: 4, Slots: []uint64{1, 2}[:0]}}
	for _, p := range l {
		for _, other := range l {
			if !pins.Same(p, other) {
				t.Errorf("%v and %v are not the same", p, other)
			}
		}
	}
	p, other := read("4 4 -"), read("4 4 - 3 9")
	other.Slots = other.Slots[:2]
	if !pins.Same(p, other) || !pins.Same(other, p) || pins.Check(other) != api.OK {
		t.Errorf("%v and %v are not the same", p, other)
	}
}

// P13.1 to P13.4: the chapter's examples.
func TestExamples(t *testing.T) {
	p, e := pins.New(2)
	if e != api.OK {
		t.Fatalf("New(2): %d", e)
	}
	do := func(o api.PinOp, want api.Errno) {
		t.Helper()
		next, e := pins.Do(p, o)
		if e != want || e != api.OK && !nothing(next) {
			t.Fatalf("Do(%v, %v): %v, %d, not %d", p, o, next, e, want)
		}
		if e == api.OK {
			p = next
		}
	}
	goes := api.PinOp{Kind: api.PiGo}
	do(api.PinOp{Kind: api.PiPin, Goer: 0, By: 0}, api.OK)
	do(goes, api.OK)
	do(goes, api.ErrHeld)
	if p.Epoch != 1 {
		t.Errorf("the Epoch is %d", p.Epoch)
	}
	oldest, some := pins.Oldest(p)
	if back := pins.Back(p); !slices.Equal(back, []int{0}) || oldest != 0 || !some || pins.Safe(p, 0) {
		t.Errorf("Back: %v; Oldest: %d, %t; Safe(0): %t", back, oldest, some, pins.Safe(p, 0))
	}
	do(api.PinOp{Kind: api.PiUnpin, Goer: 0}, api.OK)
	do(goes, api.OK)
	oldest, some = pins.Oldest(p)
	if !pins.Safe(p, 0) || oldest != 0 || some {
		t.Errorf("Safe(0): %t; Oldest: %d, %t", pins.Safe(p, 0), oldest, some)
	}
	do(api.PinOp{Kind: api.PiPin, Goer: 1, By: 2}, api.OK)
	do(goes, api.ErrHeld)
	do(api.PinOp{Kind: api.PiPin, Goer: 1}, api.ErrThere)
	do(api.PinOp{Kind: api.PiUnpin, Goer: 0}, api.ErrNone)
	do(api.PinOp{Kind: 4}, api.ErrArg)
	if !alone(p, read("2 - 0")) {
		t.Errorf("in the end: %v", p)
	}
}
