package epoch_test

import (
	"math"
	"testing"

	"honeycomb/api"
	"honeycomb/epoch"
)

// holdDo is of a reclaim that may be.
func holdDo(t *testing.T, r api.Reclaim, o api.EpochOp) api.Errno {
	t.Helper()
	was, b := copied(r), bookOf(r)
	told, no := b.doBy(o)
	want, wantTold := api.Reclaim{}, api.Entry{}
	if no == api.OK {
		want = b.reclaim()
	}
	if len(told) > 0 {
		wantTold = told[0]
	}
	got, one, e := epoch.Do(r, o)
	if e != no || !alone(got, want) || one != wantTold || e != api.OK && !nothing(got) {
		t.Fatalf("Do(%v, %v): %v, %v, %d, not %v, %v, %d", r, o, got, one, e, want, wantTold, no)
	}
	if !alone(r, was) {
		t.Fatalf("Do(%v, %v) made it %v", was, o, r)
	}
	if e == api.OK && epoch.Check(got) != api.OK { // P15.5: what comes may be
		t.Fatalf("Do(%v, %v): %v, which may not be", r, o, got)
	}
	return e
}

// entriesOf are such as are meant by a reclaim, those beside them, and those of no slab.
func entriesOf(r api.Reclaim) (l []api.Entry) {
	slabs := r.Arena.Slabs
	for n := range slabs {
		if n > 2 && n < len(slabs)-1 {
			continue
		}
		for _, gen := range []uint64{slabs[n].Gen, slabs[n].Gen + 1, slabs[n].Gen - 1, slabs[n].Gen ^ 1<<40} {
			l = append(l, api.Entry{Slab: n, Gen: gen})
		}
	}
	for _, slab := range noSlabs(len(slabs)) {
		l = append(l, api.Entry{Slab: slab, Gen: slabs[0].Gen})
	}
	return l
}

// opsOf are all kinds of ops of a reclaim: by each goroutine, by as much as there is, and by more than that; of entries.
func opsOf(r api.Reclaim) (l []api.EpochOp) {
	at := r.Pins.Epoch
	for goer := -1; goer <= len(r.Pins.Slots); goer++ {
		for _, by := range []uint64{0, 1, at, at + 1, math.MaxUint64} {
			l = append(l, api.EpochOp{Kind: 1, Goer: goer, By: by})
		}
		l = append(l, api.EpochOp{Kind: 2, Goer: goer})
	}
	for _, e := range entriesOf(r) {
		l = append(l, api.EpochOp{Kind: 4, Entry: e}, api.EpochOp{Kind: 5, Entry: e})
	}
	for _, kind := range []int{3, 6, 7, 0, 8, -1} {
		l = append(l, api.EpochOp{Kind: kind})
	}
	return l
}

// P15.2: each kind, at the edges, and by chance.
func TestDo(t *testing.T) {
	met := map[[2]int]int{}
	for _, r := range append(small(), wide()...) {
		for _, o := range opsOf(r) {
			met[[2]int{o.Kind, int(holdDo(t, r, o))}]++
		}
	}
	for kind, list := range reasons {
		for _, one := range append(list, why{e: api.OK}) {
			if n := met[[2]int{kind, int(one.e)}]; n < 30 {
				t.Errorf("the kind %d came to %d only %d times", kind, one.e, n)
			}
		}
	}
}

// P15.2: what an op's kind does not ask for is not looked at.
func TestDoAsksNoMore(t *testing.T) {
	c := chance(41)
	for _, r := range append(small(), wide()...) {
		for kind := 1; kind <= 7; kind++ {
			o := api.EpochOp{Kind: kind, Goer: one(&c, noGoers(3)), By: one(&c, []uint64{0, 1, math.MaxUint64}), Entry: one(&c, entriesOf(r))}
			switch kind {
			case 1, 2:
				o.Goer = c.below(3)
			case 4, 5:
				o.Entry = api.Entry{Slab: c.below(2), Gen: r.Arena.Slabs[c.below(2)].Gen}
			}
			if kind == 1 {
				o.By = 0
			}
			holdDo(t, r, o)
		}
	}
}

// P15.2: in numbers.
func TestDoInNumbers(t *testing.T) {
	for _, c := range []struct {
		from, op, to, told string
		e                  api.Errno
	}{
		// EpPin: of the epoch that is, of one that is less, of one that there was not; by who pins already
		{"0 - | f f | ", "0 pin", "0 0 | f f | ", "0", api.OK},
		{"0 - | f f | ", "0 pin 1", "", "0", api.ErrNone},
		{"5 - 4 | f r3 | 1; ; ", "0 pin", "5 5 4 | f r3 | 1; ; ", "0", api.OK},
		{"5 - 4 | f r3 | ; 1; ", "0 pin 1", "5 4 4 | f r3 | ; 1; ", "0", api.OK},
		{"5 - 4 | f r3 | ; ; 1", "0 pin 5", "5 0 4 | f r3 | ; ; 1", "0", api.OK},
		{"5 - 4 | f l3 | ", "0 pin 6", "", "0", api.ErrNone},
		{"5 - 4 | f l3 | ", "0 pin 18446744073709551615", "", "0", api.ErrNone},
		{"5 - 4 | f l3 | ", "1 pin", "", "0", api.ErrThere},
		{"5 - 4 | f l3 | ", "1 pin 6", "", "0", api.ErrThere}, // ahead of ErrNone
		{"5 0 5 | f l3 | ", "0 pin", "", "0", api.ErrThere},
		{"5 0 5 | f l3 | ", "1 pin", "", "0", api.ErrThere},
		{"5 - 4 | f l3 | ", "2 pin", "", "0", api.ErrArg},
		{"5 - 4 | f l3 | ", "2 pin 6", "", "0", api.ErrArg}, // so
		{"5 - 4 | f l3 | ", "-1 pin", "", "0", api.ErrArg},
		{"^ - | f f | ", "0 pin", "^ ^ | f f | ", "0", api.OK},
		{"^ - | f f | ", "0 pin ^", "^ 0 | f f | ", "0", api.OK},
		{"^ - | f f | ", "0 pin 4611686018427387905", "", "0", api.ErrNone},
		// EpUnpin: by who pins none, too
		{"5 - 4 | f l3 | ", "1 unpin", "5 - - | f l3 | ", "0", api.OK},
		{"0 0 | f l3 | ", "0 unpin", "0 - | f l3 | ", "0", api.OK},
		{"5 - 4 | f l3 | ", "0 unpin", "", "0", api.ErrNone},
		{"5 - 4 | f l3 | ", "2 unpin", "", "0", api.ErrArg},
		{"5 - 4 | f l3 | ", "-1 unpin", "", "0", api.ErrArg},
		// EpTake: with slabs that are free, with the last one, with none
		{"5 - | f f f | ", "take", "5 - | l f f | ", "0", api.OK},
		{"5 - | l f7 f | ", "take", "5 - | l l7 f | ", "1.7", api.OK},
		{"5 - | r f7 f | 0; ; ", "take", "5 - | r l7 f | 0; ; ", "1.7", api.OK}, // what is ready is not given back by it
		{"5 4 | l r f^ | ; 1; ", "take", "5 4 | l r l^ | ; 1; ", "2.^", api.OK},
		{"5 - | l l l | ", "take", "", "0", api.ErrFull},
		{"5 - | r r | 1; ; 0", "take", "", "0", api.ErrFull},
		{"5 - | l r | ; 1; ", "take", "", "0", api.ErrFull},
		// EpBack: of a live one, of one that is free, of one that waits, of an old Gen, of the last generation
		{"5 - | f l3 r | ; 2; ", "back 1.3", "5 - | f f4 r | ; 2; ", "0", api.OK},
		{"5 - | l l3 r | 2; ; ", "back 0", "5 - | f1 l3 r | 2; ; ", "0", api.OK},
		{"5 5 | f l^-1 | ", "back 1.^-1", "5 5 | f f^ | ", "0", api.OK},
		{"5 - | f l3 r | ; 2; ", "back 0", "", "0", api.ErrNone},
		{"5 - | f l3 r | ; 2; ", "back 2", "", "0", api.ErrNone},
		{"5 - | f l3 r | 2; ; ", "back 2", "", "0", api.ErrNone},
		{"5 - | f l3 r | ; 2; ", "back 1.2", "", "0", api.ErrNone},
		{"5 - | f l3 r | ; 2; ", "back 1.4", "", "0", api.ErrNone},
		{"5 - | f l3 r | ; 2; ", "back 1", "", "0", api.ErrNone},
		{"5 - | f l3 r | ; 2; ", "back 3", "", "0", api.ErrNone},
		{"5 - | f l3 r | ; 2; ", "back -1", "", "0", api.ErrNone},
		{"5 - | f l3 r | ; 2; ", "back 129.3", "", "0", api.ErrNone},
		{"5 - | f l^ r | ; 2; ", "back 1.^", "", "0", api.ErrFull},
		{"5 - | f^ l^ r^ | ; 2; ", "back 0.^", "", "0", api.ErrNone}, // ahead of ErrFull
		{"5 - | f^ l^ r^ | ; 2; ", "back 2.^", "", "0", api.ErrNone},
		// EpRetire: of a live one, of one that is free, of one that waits already
		{"5 - | f l3 r | ; 2; ", "retire 1.3", "5 - | f r3 r | ; 2; 1", "0", api.OK},
		{"5 - | f l3 r | ; ; 2", "retire 1.3", "5 - | f r3 r | ; ; 2 1", "0", api.OK}, // behind all others
		{"6 4 | f l3 r | 2; ; ", "retire 1.3", "6 4 | f r3 r | 2; ; 1", "0", api.OK},
		{"0 - | l l | ", "retire 0", "0 - | r l | ; ; 0", "0", api.OK},
		{"1 - | l r | ; 1; ", "retire 0", "1 - | r r | ; 1; 0", "0", api.OK},
		{"^ - | l l^ | ", "retire 1.^", "^ - | l r^ | ; ; 1", "0", api.OK},
		{"5 - | f l3 r | ; 2; ", "retire 0", "", "0", api.ErrNone},
		{"5 - | f l3 r | ; 2; ", "retire 2", "", "0", api.ErrNone},
		{"5 - | f l3 r | ; ; 2", "retire 2", "", "0", api.ErrNone},
		{"5 - | f l3 r | 2; ; ", "retire 2", "", "0", api.ErrNone},
		{"5 - | f l3 r | ; 2; ", "retire 1.2", "", "0", api.ErrNone},
		{"5 - | f l3 r | ; 2; ", "retire 1.4", "", "0", api.ErrNone},
		{"5 - | f l3 r | ; 2; ", "retire 3", "", "0", api.ErrNone},
		{"5 - | f l3 r | ; 2; ", "retire -1", "", "0", api.ErrNone},
		// EpFree: with nothing, one, and many ready, in order, and of the last generation
		{"5 - | r r | ; 1; 0", "free", "", "0", api.ErrNone},
		{"5 - | l f | ", "free", "", "0", api.ErrNone},
		{"0 - | r f | ; ; 0", "free", "", "0", api.ErrNone},
		{"1 - | r f | ; 0; ", "free", "", "0", api.ErrNone},
		{"2 - | r f | 0; ; ", "free", "2 - | f1 f | ", "0", api.OK},
		{"5 - | r7 r1 | 0; 1; ", "free", "5 - | f8 r1 | ; 1; ", "0.7", api.OK},
		{"5 4 | r7 r1 | 1; ; 0", "free", "5 4 | r7 f2 | ; ; 0", "1.1", api.OK}, // whoever pins
		{"5 - | r r1 r2 | 2 0 1; ; ", "free", "5 - | r r1 f3 | 0 1; ; ", "2.2", api.OK},
		{"5 - | r r1 f3 | 0 1; ; ", "free", "5 - | f1 r1 f3 | 1; ; ", "0", api.OK},
		{"^ - | r^-1 r1 | 0 1; ; ", "free", "^ - | f^ r1 | 1; ; ", "0.^-1", api.OK},
		{"5 - | r^ r1 | 0; 1; ", "free", "", "0", api.ErrFull},
		{"5 - | r^ r1 | 0 1; ; ", "free", "", "0", api.ErrFull}, // of the first one
		{"5 - | r^ r1 | 1 0; ; ", "free", "5 - | r^ f2 | 0; ; ", "1.1", api.OK},
		{"5 - | r^ r1 | 1; 0; ", "free", "5 - | r^ f2 | ; 0; ", "1.1", api.OK},
		// EpGo: with something ready, with nothing, with nobody pinning, with somebody who pins the epoch that is, or the one ahead of it, and at the last one
		{"0 - | f f | ", "go", "1 - | f f | ", "0", api.OK},
		{"5 - - | r l | ; ; 0", "go", "6 - - | r l | ; 0; ", "0", api.OK},
		{"6 - - | r l | ; 0; ", "go", "7 - - | r l | 0; ; ", "0", api.OK},
		{"7 - - | r l | 0; ; ", "go", "", "0", api.ErrReady},
		{"5 - 5 | r l | ; 0; ", "go", "6 - 5 | r l | 0; ; ", "0", api.OK},
		{"5 5 5 | f l | ", "go", "6 5 5 | f l | ", "0", api.OK},
		{"5 - 4 | f l | ", "go", "", "0", api.ErrHeld},
		{"5 5 0 | r l | ; 0; ", "go", "", "0", api.ErrHeld},
		{"5 4 - | r l | 0; ; ", "go", "", "0", api.ErrReady}, // ahead of ErrHeld
		{"^ - - | r l | 0; ; ", "go", "", "0", api.ErrReady}, // and of ErrFull
		{"^ 4 - | r l | 0; ; ", "go", "", "0", api.ErrReady},
		{"^ - - | r l | ; 0; ", "go", "", "0", api.ErrFull},
		{"^ - ^ | f l | ", "go", "", "0", api.ErrFull},
		{"^ ^-1 - | f l | ", "go", "", "0", api.ErrHeld}, // ahead of ErrFull
		{"^-1 ^-1 - | r l | ; 0; ", "go", "^ ^-1 - | r l | 0; ; ", "0", api.OK},
		{"^-1 ^-2 - | r l | ; 0; ", "go", "", "0", api.ErrHeld},
		{"5 - | r^ l | 0; ; ", "go", "", "0", api.ErrReady},
		// of no kind
		{"5 - | f l | ", "none 0", "", "0", api.ErrEpOp},
		{"5 - | f l | ", "none 8", "", "0", api.ErrEpOp},
		{"^ 4 | r l | 0; ; ", "none 8", "", "0", api.ErrEpOp},
	} {
		got, told, e := epoch.Do(read(c.from), op(c.op))
		if !alone(got, read(c.to)) || told != entry(c.told) || e != c.e {
			t.Errorf("Do(%s, %s): %v, %v, %d, not %s, %s, %d", c.from, c.op, got, told, e, c.to, c.told, c.e)
		}
	}
}

// P15.2: ErrEpOp of each number that is no kind, whatever else is asked, and whatever could not be done.
func TestDoOfNoKind(t *testing.T) {
	for _, r := range append(plains(), read("^ 0 ^-1 | r^ r | 0; 1; ")) {
		was := copied(r)
		for _, kind := range noKinds {
			for _, goer := range append(noGoers(2), 0, 1) {
				for _, e := range entriesOf(r) {
					got, told, no := epoch.Do(r, api.EpochOp{Kind: kind, Goer: goer, By: e.Gen, Entry: e})
					if !nothing(got) || told != (api.Entry{}) || no != 251 {
						t.Fatalf("Do(%v, %d, %d, %v): %v, %v, %d", r, kind, goer, e, got, told, no)
					}
				}
			}
		}
		if !alone(r, was) {
			t.Fatalf("%v was made %v", was, r)
		}
	}
}

// P15.2: ErrArg of each number that is no goroutine, of what pins and unpins.
func TestDoOfNoGoer(t *testing.T) {
	for _, r := range append(plains(), read("5 5 5 5 5 5 5 5 5 | f l | ")) {
		for _, goer := range noGoers(len(r.Pins.Slots)) {
			if goer >= 0 && goer < len(r.Pins.Slots) {
				continue
			}
			for kind := 1; kind <= 2; kind++ {
				for _, by := range []uint64{0, r.Pins.Epoch + 1, math.MaxUint64} {
					if got, told, e := epoch.Do(r, api.EpochOp{Kind: kind, Goer: goer, By: by}); !nothing(got) || told != (api.Entry{}) || e != 2 {
						t.Fatalf("Do(%v, %d, %d, %d): %v, %v, %d", r, kind, goer, by, got, told, e)
					}
				}
			}
		}
	}
}

// P15.2: all slabs are taken, one by one, retired, and given back, in order.
func TestDoOfAllSlabs(t *testing.T) {
	r, _ := epoch.New(1, mostSlabs)
	then := func(kind int, e api.Entry, want api.Entry) {
		t.Helper()
		next, told, no := epoch.Do(r, api.EpochOp{Kind: kind, Entry: e})
		if no != api.OK || told != want {
			t.Fatalf("%d of %v: %v, %d, not %v", kind, e, told, no, want)
		}
		r = next
	}
	for slab := range mostSlabs {
		then(3, api.Entry{}, api.Entry{Slab: slab})
	}
	holdDo(t, r, op("take"))
	for slab := mostSlabs - 1; slab >= 0; slab-- {
		then(5, api.Entry{Slab: slab}, api.Entry{})
	}
	then(7, api.Entry{}, api.Entry{})
	holdDo(t, r, op("free"))
	then(7, api.Entry{}, api.Entry{})
	for slab := mostSlabs - 1; slab >= 0; slab-- {
		holdDo(t, r, op("go"))
		then(6, api.Entry{}, api.Entry{Slab: slab})
	}
	then(3, api.Entry{}, api.Entry{Gen: 1})
}

// P15.2: ErrReclaim goes ahead of all else.
func TestDoOfNoReclaim(t *testing.T) {
	for _, r := range noReclaims() {
		was := copied(r)
		for _, o := range ops("0 pin, 0 pin 1, 7 pin, -1 pin, 0 unpin, 1 unpin, 9 unpin, take, back 0, back 1, back 1.1, back -1, retire 0, retire 1, retire 1.1, retire 128, free, go, none 0, none 8") {
			if got, told, e := epoch.Do(r, o); !nothing(got) || told != (api.Entry{}) || e != 250 {
				t.Fatalf("Do(%v, %v): %v, %v, %d", r, o, got, told, e)
			}
		}
		if !alone(r, was) {
			t.Fatalf("%v was made %v", was, r)
		}
	}
}

// P15.2, R3: what is handed in stays as it is, and is not kept; what is told is memory of its own, list by list, those that are not changed, too.
func TestDoSharesNoMemory(t *testing.T) {
	for _, from := range []string{"5 - 4 | f3 l1 r2 r r7 l | 2; 3; 4", "6 - 6 | f l r r1 r2 r3 | ; 4 3; 5 2", "7 - 7 | l l f | "} {
		for _, o := range ops("0 pin, 1 unpin, take, back 1.1, back 1, retire 1.1, retire 1, free, go") {
			plain := read(from)
			if _, _, e := epoch.Do(plain, o); e != api.OK {
				continue
			}
			holdMemory(t, from, plain, func(r api.Reclaim) (api.Reclaim, []api.Entry) {
				got, _, e := epoch.Do(r, o)
				if e != api.OK {
					t.Fatalf("Do(%v, %v): %d", r, o, e)
				}
				return got, nil
			})
		}
	}
}
