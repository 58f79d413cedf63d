package epoch_test

import (
	"slices"
	"testing"

	"honeycomb/api"
	"honeycomb/arena"
	"honeycomb/epoch"
)

// life is a reclaim that lives on, and the log of it.
type life struct {
	t     *testing.T
	r     api.Reclaim
	waits []api.Entry         // what was retired, and not given back since, in order
	gone  map[api.Entry]int   // what was ever given back
	saw   map[int][]api.Entry // of each goroutine that pinned the epoch that was: what was live by then
	frees int                 // how often something was given back that had waited, while a goroutine pinned so
}

func lifeOf(t *testing.T, goers, slabs int, at, gen uint64) *life {
	r, e := epoch.New(goers, slabs)
	if e != api.OK {
		t.Fatal(e)
	}
	r.Pins.Epoch, r.Limbo.Epoch = at, at
	for slab := range r.Arena.Slabs {
		r.Arena.Slabs[slab].Gen = gen
	}
	return &life{t: t, r: r, gone: map[api.Entry]int{}, saw: map[int][]api.Entry{}}
}

// live are the entries of all slabs that are.
func live(r api.Reclaim) (l []api.Entry) {
	for slab, s := range r.Arena.Slabs {
		if s.Tag == api.SlLive {
			l = append(l, api.Entry{Slab: slab, Gen: s.Gen})
		}
	}
	return l
}

// freed is of what waited, and was given back: the first one, each once, and nothing that who pins had seen live.
func (l *life) freed(given ...api.Entry) {
	l.t.Helper()
	for _, e := range given {
		if len(l.waits) == 0 || e != l.waits[0] {
			l.t.Fatalf("%v was given back, while these wait: %v", e, l.waits)
		}
		l.waits = l.waits[1:]
		if l.gone[e]++; l.gone[e] > 1 {
			l.t.Fatalf("%v was given back twice", e)
		}
		for goer, seen := range l.saw {
			if slices.Contains(seen, e) {
				l.t.Fatalf("%v was given back, which was live when %d pinned, which it does yet", e, goer)
			}
		}
		if len(l.saw) > 0 {
			l.frees++
		}
	}
}

// do is an op, and what the log says of it.
func (l *life) do(o api.EpochOp) api.Errno {
	l.t.Helper()
	was := l.r
	next, told, e := epoch.Do(was, o)
	if e != api.OK {
		return e
	}
	l.r = next
	switch o.Kind {
	case api.EpPin:
		if o.By == 0 {
			l.saw[o.Goer] = live(was)
		}
	case api.EpUnpin:
		delete(l.saw, o.Goer)
	case api.EpTake:
		if l.gone[told] > 0 || slices.Contains(l.waits, told) || slices.Contains(live(was), told) {
			l.t.Fatalf("%v was taken, which was given back, or is not free", told)
		}
	case api.EpBack:
		if l.gone[o.Entry]++; l.gone[o.Entry] > 1 {
			l.t.Fatalf("%v was given back twice", o.Entry)
		}
	case api.EpRetire:
		l.waits = append(l.waits, o.Entry)
	case api.EpFree:
		l.freed(told)
	}
	return e
}

func (l *life) try() {
	l.t.Helper()
	next, given, _, e := epoch.Try(l.r)
	if e != api.OK {
		l.t.Fatalf("Try(%v): %d", l.r, e)
	}
	l.r = next
	l.freed(given...)
}

func (l *life) settle() {
	l.t.Helper()
	if next, given, e := epoch.Settle(l.r); e == api.OK {
		l.r = next
		l.freed(given...)
	}
}

// hold: P15.5 of what it came to.
func (l *life) hold() {
	l.t.Helper()
	if e := epoch.Check(l.r); e != api.OK {
		l.t.Fatalf("%v may not be: %d", l.r, e)
	}
	free, lives, retired := arena.Counts(l.r.Arena)
	if free+lives+retired != len(l.r.Arena.Slabs) || lives != len(live(l.r)) || retired != len(l.waits) || epoch.Waits(l.r) != len(l.waits) {
		l.t.Fatalf("%v: %d, %d, %d, and %d wait, not %v", l.r, free, lives, retired, epoch.Waits(l.r), l.waits)
	}
}

// holdThree: with nobody pinning three tries give back all that waits, if there are epochs for that, and generations.
func (l *life) holdThree() {
	l.t.Helper()
	if l.r.Pins.Epoch > lastEpoch-2 || slices.ContainsFunc(l.waits, func(e api.Entry) bool { return e.Gen == lastGen }) {
		return
	}
	r := changed(l.r, func(r *api.Reclaim) { clear(r.Pins.Slots) })
	var all []api.Entry
	for range 3 {
		next, given, _, e := epoch.Try(r)
		if e != api.OK {
			l.t.Fatalf("Try(%v): %d", r, e)
		}
		r, all = next, append(all, given...)
	}
	if !slices.Equal(all, l.waits) || epoch.Waits(r) != 0 {
		l.t.Fatalf("of %v three tries gave back %v", l.r, all)
	}
}

// P15.5: long lives, at the beginning, and at the end, of all epochs, and of all generations.
func TestLives(t *testing.T) {
	c := chance(23)
	met, frees := map[[2]int]int{}, 0
	for goers := 1; goers <= mostGoers; goers += 1 + goers/3 {
		for _, slabs := range []int{2, 3, 8, 40, mostSlabs} {
			for _, from := range [][2]uint64{{0, 0}, {1 << 40, 5}, {lastEpoch - 30, 1 << 30}, {1, lastGen - 5}} {
				l := lifeOf(t, goers, slabs, from[0], from[1])
				for n := range 600 {
					switch c.below(40) {
					case 0:
						l.try()
					case 1:
						l.settle()
					default:
						o := c.next(l.r)
						if o.Kind == api.EpPin && c.below(3) == 0 { // so that nobody pins, too
							o.Kind = api.EpUnpin
						}
						met[[2]int{o.Kind, int(l.do(o))}]++
					}
					l.hold()
					if n%10 == 0 {
						l.holdThree()
					}
				}
				frees += l.frees
				if len(l.gone) < 10 && from[0] == 0 {
					t.Errorf("%d goroutines, %d slabs: only %d were given back", goers, slabs, len(l.gone))
				}
			}
		}
	}
	for kind, list := range reasons {
		for _, one := range append(list, why{e: api.OK}) {
			if n := met[[2]int{kind, int(one.e)}]; n < 20 {
				t.Errorf("the kind %d came to %d only %d times", kind, one.e, n)
			}
		}
	}
	if frees < 300 {
		t.Errorf("while somebody pinned only %d were given back", frees)
	}
}

// P15.5: what is retired is given back in the end, once, and no more is.
func TestLivesThatSettle(t *testing.T) {
	c := chance(47)
	for goers := 1; goers <= mostGoers; goers++ {
		for _, slabs := range []int{2, 7, 30, mostSlabs} {
			l := lifeOf(t, goers, slabs, uint64(c.below(9)), 0)
			for range 300 {
				l.do(c.next(l.r))
			}
			for goer := range goers {
				l.do(api.EpochOp{Kind: api.EpUnpin, Goer: goer})
			}
			lives := live(l.r)
			l.settle()
			l.hold()
			if len(l.waits) > 0 || epoch.Waits(l.r) != 0 || !slices.Equal(live(l.r), lives) {
				t.Fatalf("in the end: %v; these were live: %v", l.r, lives)
			}
			once := l.r
			if l.settle(); !epoch.Same(once, l.r) { // as nothing waits any more
				t.Fatalf("settled twice: %v, not %v", l.r, once)
			}
			for slab, s := range l.r.Arena.Slabs { // each slab was given back as often as its generation says
				for gen := range s.Gen {
					if l.gone[api.Entry{Slab: slab, Gen: gen}] != 1 {
						t.Fatalf("%d of %d was given back %d times", slab, gen, l.gone[api.Entry{Slab: slab, Gen: gen}])
					}
				}
			}
		}
	}
}

// P15.5: what was live when one pinned waits until it pins no more, however often others try; in each epoch, whoever it is.
func TestPinsHold(t *testing.T) {
	for _, at := range []uint64{0, 1, 2, 3, 4, 5, 1 << 32, lastEpoch - 4} {
		for goer := range mostGoers {
			for between := range 3 { // tries between its pinning, and the retiring
				l := lifeOf(t, mostGoers, 3, at, 7)
				l.do(op("take"))
				l.do(op("take"))
				l.do(api.EpochOp{Kind: api.EpPin, Goer: goer})
				for range between {
					l.try()
				}
				l.do(op("retire 1.7"))
				for n := range 6 {
					l.try()
					l.hold()
					if n == 1 {
						l.do(op("retire 0.7"))
					}
				}
				if n := epoch.Waits(l.r); n != 2 || l.r.Pins.Epoch != at+1 {
					t.Fatalf("from %d on, while %d pins: %v", at, goer, l.r)
				}
				l.do(api.EpochOp{Kind: api.EpUnpin, Goer: goer})
				l.try()
				l.try()
				if n := epoch.Waits(l.r); n != 0 || l.r.Pins.Epoch != at+3 {
					t.Fatalf("from %d on, as %d pins no more: %v", at, goer, l.r)
				}
			}
		}
	}
}

// P15.5: but by EpBack; and what was retired ahead of its pinning is given back all the same.
func TestPinsHoldNoMore(t *testing.T) {
	r := read("5 - - | l7 l8 f | ")
	r, told, passed, e := epoch.Run(r, ops("retire 0.7, 1 pin, back 1.8")...)
	if !alone(r, read("5 - 5 | r7 f9 f | ; ; 0")) || len(told) > 0 || passed != 0 || e != api.OK {
		t.Errorf("EpBack: %v, %v, %d, %d", r, told, passed, e)
	}
	r, told, passed, e = epoch.Run(r, ops("go, 1 unpin, 0 pin, take, go, free")...)
	if !alone(r, read("7 6 - | f8 l9 f | ")) || !slices.Equal(told, entries("1.9 0.7")) || passed != 0 || e != api.OK {
		t.Errorf("EpFree: %v, %v, %d, %d", r, told, passed, e)
	}
}
