package pins_test

import (
	"math"
	"testing"

	"honeycomb/api"
	"honeycomb/pins"
)

// holdDo is of pins that may be.
func holdDo(t *testing.T, p api.Pins, o api.PinOp) api.Errno {
	t.Helper()
	was, b := copied(p), bookOf(p)
	no := b.doBy(o)
	want := b.pins()
	if no != api.OK {
		want = api.Pins{}
	}
	got, e := pins.Do(p, o)
	if e != no || !alone(got, want) || e != api.OK && !nothing(got) {
		t.Fatalf("Do(%v, %v): %v, %d, not %v, %d", p, o, got, e, want, no)
	}
	if !alone(p, was) {
		t.Fatalf("Do(%v, %v) made them %v", was, o, p)
	}
	if e == api.OK && pins.Check(got) != api.OK { // P13.5: what comes may be
		t.Fatalf("Do(%v, %v): %v, which may not be", p, o, got)
	}
	return e
}

// P13.2: each kind, by each goroutine, by as much as there is, and by more than that; of By and Goer where they are not asked for, too.
func TestDo(t *testing.T) {
	met := map[[2]int]int{}
	for _, p := range append(small(), wide()...) {
		for kind := 0; kind <= 4; kind++ {
			for goer := -1; goer <= len(p.Slots); goer++ {
				for _, by := range append(nearBys(p.Epoch), farBys(p.Epoch)...) {
					e := holdDo(t, p, api.PinOp{Kind: kind, Goer: goer, By: by})
					met[[2]int{kind, int(e)}]++
				}
			}
		}
	}
	for kind, list := range reasons {
		for _, one := range append(list, why{e: api.OK}) {
			if n := met[[2]int{kind, int(one.e)}]; n < 100 {
				t.Errorf("the kind %d came to %d only %d times", kind, one.e, n)
			}
		}
	}
}

// P13.2: in numbers.
func TestDoInNumbers(t *testing.T) {
	for _, c := range []struct {
		from, op, to string
		e            api.Errno
	}{
		{"0 -", "0 pin", "0 0", api.OK},
		{"0 -", "0 pin 1", "", api.ErrNone},
		{"1 - -", "1 pin", "1 - 1", api.OK},
		{"1 - -", "1 pin 1", "1 - 0", api.OK},
		{"1 - -", "1 pin 2", "", api.ErrNone},
		{"9 4 - 9", "1 pin 3", "9 4 6 9", api.OK},
		{"9 4 - 9", "1 pin 9", "9 4 0 9", api.OK},
		{"9 4 - 9", "1 pin 10", "", api.ErrNone},
		{"9 4 - 9", "1 pin 18446744073709551615", "", api.ErrNone},
		{"9 4 - 9", "0 pin", "", api.ErrThere},
		{"9 4 - 9", "2 pin", "", api.ErrThere},
		{"9 4 - 9", "0 pin 10", "", api.ErrThere}, // ahead of ErrNone
		{"9 4 - 9", "3 pin", "", api.ErrArg},
		{"9 4 - 9", "3 pin 10", "", api.ErrArg},
		{"9 4 - 9", "-1 pin", "", api.ErrArg},
		{"0 0", "0 pin", "", api.ErrThere}, // a slot of 1 pins the epoch 0
		{"9 0 - 9", "0 pin", "", api.ErrThere},
		{"^ - - ^", "0 pin", "^ ^ - ^", api.OK},
		{"^ - - ^", "0 pin 1", "^ ^-1 - ^", api.OK},
		{"^ - - ^", "1 pin ^", "^ - 0 ^", api.OK},
		{"^ - - ^", "1 pin ^-1", "^ - 1 ^", api.OK},
		{"^ - - ^", "1 pin 4611686018427387905", "", api.ErrNone},
		{"9 4 - 9", "0 unpin", "9 - - 9", api.OK},
		{"9 4 - 9", "0 unpin 10", "9 - - 9", api.OK}, // By says nothing of it
		{"9 4 - 9", "2 unpin", "9 4 - -", api.OK},
		{"9 4 - 9", "1 unpin", "", api.ErrNone},
		{"9 4 - 9", "3 unpin", "", api.ErrArg},
		{"9 4 - 9", "-1 unpin", "", api.ErrArg},
		{"0 0", "0 unpin", "0 -", api.OK},
		{"0 -", "0 unpin", "", api.ErrNone},
		{"^ 0", "0 unpin", "^ -", api.OK},
		{"0 -", "go", "1 -", api.OK},
		{"0 0", "go", "1 0", api.OK},
		{"1 0", "go", "", api.ErrHeld},
		{"1 1", "go", "2 1", api.OK},
		{"9 9 - 9", "go", "10 9 - 9", api.OK},
		{"9 9 8 9", "go", "", api.ErrHeld},
		{"9 0 - 9", "go", "", api.ErrHeld},
		{"9 9 - 8", "go", "", api.ErrHeld},
		{"9 4 3 2", "go", "", api.ErrHeld},
		{"9 - - -", "3 go 10", "10 - - -", api.OK}, // nor do Goer and By say anything of going on
		{"9 - - -", "-1 go", "10 - - -", api.OK},
		{"9 - - 8", "-1 go", "", api.ErrHeld},
		{"^-1 - ^-1", "go", "^ - ^-1", api.OK},
		{"^-1 - ^-2", "go", "", api.ErrHeld},
		{"^ - -", "go", "", api.ErrFull},
		{"^ ^ -", "go", "", api.ErrFull},
		{"^ ^ ^-1", "go", "", api.ErrHeld}, // ahead of ErrFull
		{"^ ^ 0", "go", "", api.ErrHeld},
		{"9 4 - 9", "1 none", "", api.ErrArg},
		{"^ ^ 0", "7 none", "", api.ErrArg},
	} {
		if got, e := pins.Do(read(c.from), op(c.op)); !alone(got, read(c.to)) || e != c.e {
			t.Errorf("Do(%s, %s): %v, %d, not %s, %d", c.from, c.op, got, e, c.to, c.e)
		}
	}
}

// P13.2: of the last goroutine that there is, of each number of goroutines; and of the next one.
func TestDoOfEachGoer(t *testing.T) {
	for goers := 1; goers <= mostGoers; goers++ {
		p, _ := pins.New(goers)
		p.Epoch = 5
		for goer := range goers {
			next, e := pins.Do(p, api.PinOp{Kind: api.PiPin, Goer: goer, By: uint64(goer % 3)})
			if p.Slots[goer] = uint64(6 - goer%3); e != api.OK || !alone(next, p) {
				t.Fatalf("%d of %d pins: %v, %d", goer, goers, next, e)
			}
		}
		for goer := range goers {
			next, e := pins.Do(p, api.PinOp{Kind: api.PiUnpin, Goer: goer})
			if p.Slots[goer] = 0; e != api.OK || !alone(next, p) {
				t.Fatalf("%d of %d unpins: %v, %d", goer, goers, next, e)
			}
		}
	}
}

// P13.2: ErrPins goes ahead of all else.
func TestDoOfNoPins(t *testing.T) {
	for _, p := range noPins() {
		was := copied(p)
		for _, text := range []string{"0 pin", "0 pin 1", "0 pin 18446744073709551615", "0 unpin", "1 pin", "1 unpin", "go", "-1 pin", "-1 unpin", "8 pin", "9 unpin", "0 none"} {
			if got, e := pins.Do(p, op(text)); !nothing(got) || e != api.ErrPins {
				t.Fatalf("Do(%v, %s): %v, %d", p, text, got, e)
			}
		}
		if got, e := pins.Do(p, api.PinOp{Kind: math.MinInt, Goer: math.MaxInt}); !nothing(got) || e != api.ErrPins {
			t.Fatalf("Do(%v): %v, %d", p, got, e)
		}
		if !alone(p, was) {
			t.Fatalf("%v were made %v", was, p)
		}
	}
}

// P13.2: ErrArg of no kind, and of no goroutine, but of PiGo; whatever else is asked, and whoever pins, and holds back.
func TestDoOfNoKindAndNoGoer(t *testing.T) {
	for _, p := range []api.Pins{read("5 - - -"), read("5 5 5 5"), read("5 4 4 4"), read("^ ^ - 0"), read("0 - 0 -")} {
		for _, by := range append(nearBys(p.Epoch), farBys(p.Epoch)...) {
			for _, kind := range noKinds {
				for _, goer := range append(noGoers(3), 0, 1, 2) {
					if got, e := pins.Do(p, api.PinOp{Kind: kind, Goer: goer, By: by}); !nothing(got) || e != api.ErrArg {
						t.Fatalf("Do(%v, %d, %d, %d): %v, %d", p, kind, goer, by, got, e)
					}
				}
			}
			for _, goer := range noGoers(3) {
				for kind := 1; kind <= 2; kind++ {
					if got, e := pins.Do(p, api.PinOp{Kind: kind, Goer: goer, By: by}); !nothing(got) || e != api.ErrArg {
						t.Fatalf("Do(%v, %d, %d, %d): %v, %d", p, kind, goer, by, got, e)
					}
				}
				holdDo(t, p, api.PinOp{Kind: 3, Goer: goer, By: by})
			}
		}
	}
}

// roomy are the same pins, with room behind the end of their slots in which something stands; and all of it.
func roomy(p api.Pins) (own, rooms api.Pins) {
	rooms = api.Pins{Epoch: p.Epoch, Slots: append(copied(p).Slots, 77, 78)}
	return api.Pins{Epoch: p.Epoch, Slots: rooms.Slots[:len(p.Slots)]}, rooms
}

// spoil changes all slots, and the room behind their end.
func spoil(p api.Pins) {
	slots := p.Slots[:cap(p.Slots)]
	for n := range slots {
		slots[n] = 99
	}
}

// P13.2, R3: what is handed in stays as it is, the room behind its end, too, and is not kept; what is told is memory of its own.
func TestDoSharesNoMemory(t *testing.T) {
	plain := read("5 - 5 - 5")
	for _, text := range []string{"0 pin", "2 pin 3", "1 unpin", "3 unpin", "go"} {
		p, rooms := roomy(plain)
		was := copied(rooms)
		got, e := pins.Do(p, op(text))
		if e != api.OK || !alone(p, plain) {
			t.Fatalf("%s: %v, %d", text, p, e)
		}
		want := copied(got)
		again, _ := pins.Do(p, op(text))
		spoil(got)
		if !alone(rooms, was) || !alone(again, want) {
			t.Fatalf("%s: what was told is what was handed in, or was told ahead of it: %v, %v", text, rooms, again)
		}
		spoil(rooms)
		if !alone(again, want) {
			t.Fatalf("%s: what was told is what was handed in: %v, not %v", text, again, want)
		}
	}
}
