package pins_test

import (
	"testing"

	"honeycomb/api"
	"honeycomb/pins"
)

// life are pins that live on, and what was known when each goroutine pinned.
type life struct {
	t     *testing.T
	p     api.Pins
	since map[int]uint64 // the Epoch that was, of those that pin
}

// do does an op, unless that is an error, and looks at what it came to.
func (l *life) do(o api.PinOp) api.Errno {
	next, e := pins.Do(l.p, o)
	if e != api.OK {
		return e
	}
	was := l.p
	l.p = next
	switch o.Kind {
	case api.PiPin:
		l.since[o.Goer] = was.Epoch
	case api.PiUnpin:
		delete(l.since, o.Goer)
	case api.PiGo:
		if next.Epoch != was.Epoch+1 {
			l.t.Fatalf("%v went on to %v", was, next)
		}
	}
	l.hold()
	return e
}

// hold: P13.5 of what it came to.
func (l *life) hold() {
	if e := pins.Check(l.p); e != api.OK {
		l.t.Fatalf("%v may not be: %d", l.p, e)
	}
	for goer, epoch := range l.since {
		if l.p.Epoch != epoch && l.p.Epoch != epoch+1 {
			l.t.Fatalf("%d pinned when the Epoch was %d: %v", goer, epoch, l.p)
		}
		for more := range uint64(4) { // the Epoch that was, and what is behind it
			if pins.Safe(l.p, epoch+more) {
				l.t.Fatalf("%d pinned when the Epoch was %d: Safe(%v, %d)", goer, epoch, l.p, epoch+more)
			}
		}
	}
}

// P13.5: long lives: of all numbers of goroutines, at the beginning, and at the end, of all epochs.
func TestLives(t *testing.T) {
	c := chance(23)
	met := map[api.Errno]int{}
	for goers := 1; goers <= mostGoers; goers++ {
		for _, epoch := range []uint64{0, 1, 1 << 40, lastEpoch - 50, lastEpoch - 1} {
			p, _ := pins.New(goers)
			p.Epoch = epoch
			l := &life{t: t, p: p, since: map[int]uint64{}}
			for range 2000 {
				o := c.op(l.p)
				if o.Kind == api.PiPin && c.below(3) > 0 {
					o.By = 0
				}
				met[l.do(o)]++
			}
		}
	}
	for _, e := range []api.Errno{api.OK, api.ErrArg, api.ErrThere, api.ErrNone, api.ErrHeld, api.ErrFull} {
		if met[e] < 100 {
			t.Errorf("%d came only %d times", e, met[e])
		}
	}
}

// P13.5: while one pins, whatever By was, the Epoch goes on once, or not at all; however often that is asked.
func TestGoesOnOnceAtMost(t *testing.T) {
	for by := range uint64(6) {
		p := read("5 - - -")
		p, _, e := pins.Run(p, api.PinOp{Kind: api.PiPin, Goer: 1, By: by}, op("go"), op("go"), op("0 pin"), op("0 unpin"), op("go"))
		want := uint64(5)
		if by == 0 {
			want = 6
		}
		if e != api.OK || p.Epoch != want {
			t.Errorf("by %d: %v, %d", by, p, e)
		}
		p, passed, e := pins.Run(p, op("1 unpin"), op("go"), op("go"))
		if e != api.OK || passed != 0 || p.Epoch != want+2 {
			t.Errorf("by %d, unpinned: %v, %d, %d", by, p, passed, e)
		}
	}
}

// P13.5: what one may have seen is not safe while it pins; what is one less than that gets safe all the same.
func TestSafeBehindUnpin(t *testing.T) {
	p, _, _ := pins.Run(read("5 - -"), ops("0 pin,go,go,go")...)
	if pins.Safe(p, 5) || pins.Safe(p, 6) || !pins.Safe(p, 4) {
		t.Errorf("%v: %t, %t, %t", p, pins.Safe(p, 5), pins.Safe(p, 6), pins.Safe(p, 4))
	}
	p, _, _ = pins.Run(p, op("0 unpin"))
	if pins.Safe(p, 5) {
		t.Errorf("Safe(%v, 5), ahead of going on", p)
	}
	p, passed, _ := pins.Run(p, op("1 pin"), op("go"))
	if passed != 0 || !pins.Safe(p, 5) || pins.Safe(p, 6) {
		t.Errorf("%v: %t, %t", p, pins.Safe(p, 5), pins.Safe(p, 6))
	}
}

// P13.5: with nobody pinning the Epoch goes on, from each one but the last.
func TestGoesOnWithNobody(t *testing.T) {
	for goers := 1; goers <= mostGoers; goers++ {
		for _, epoch := range append([]uint64{lastEpoch - 2, 77}, edges...) {
			p := api.Pins{Epoch: epoch, Slots: make([]uint64, goers)}
			next, e := pins.Do(p, op("go"))
			if epoch == lastEpoch {
				if e != api.ErrFull || !nothing(next) {
					t.Errorf("%v goes on to %v, %d", p, next, e)
				}
				continue
			}
			if p.Epoch++; e != api.OK || !alone(next, p) {
				t.Errorf("on to %v, %d, not %v", next, e, p)
			}
		}
	}
}
