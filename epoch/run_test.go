package epoch_test

import (
	"math"
	"slices"
	"testing"

	"honeycomb/api"
	"honeycomb/epoch"
)

// holdRun is of a reclaim that may be.
func holdRun(t *testing.T, r api.Reclaim, l []api.EpochOp) (told, passed int, e api.Errno) {
	t.Helper()
	was, wasOps := copied(r), slices.Clone(l)
	want, wantTold, wantPassed, no := runBy(r, l)
	got, row, passed, e := epoch.Run(r, l...)
	if e != no || !alone(got, want) || !slices.Equal(row, wantTold) || passed != wantPassed || e != api.OK && (!nothing(got) || row != nil) {
		t.Fatalf("Run(%v, %v): %v, %v, %d, %d, not %v, %v, %d, %d", r, l, got, row, passed, e, want, wantTold, wantPassed, no)
	}
	if !alone(r, was) || !slices.Equal(l, wasOps) {
		t.Fatalf("Run(%v, %v) made them %v, %v", was, wasOps, r, l)
	}
	if e == api.OK && epoch.Check(got) != api.OK {
		t.Fatalf("Run(%v, %v): %v, which may not be", r, l, got)
	}
	return len(row), passed, e
}

// P15.3: rows of none, one, and two ops, at the edges.
func TestRunOfFew(t *testing.T) {
	few := ops("0 pin, 1 unpin, take, back 0, retire 1, free, go, 7 pin, none 8")
	for _, r := range append(small(), wide()...) {
		holdRun(t, r, nil)
		for _, o := range few {
			holdRun(t, r, []api.EpochOp{o})
			for _, other := range few {
				holdRun(t, r, []api.EpochOp{o, other})
			}
		}
	}
}

// next is an op by chance, of which much can be done.
func (c *chance) next(r api.Reclaim) api.EpochOp {
	o := api.EpochOp{Kind: 1 + c.below(7), Goer: c.below(len(r.Pins.Slots)), By: uint64(max(0, c.below(6)-3))}
	slab := c.below(len(r.Arena.Slabs))
	o.Entry = api.Entry{Slab: slab, Gen: r.Arena.Slabs[slab].Gen}
	switch c.below(30) {
	case 0:
		o.Entry.Gen++
	case 1:
		o.Entry.Slab = one(c, noSlabs(len(r.Arena.Slabs)))
	case 2:
		o.Goer = one(c, noGoers(len(r.Pins.Slots)))
	case 3:
		o.By = one(c, []uint64{r.Pins.Epoch, r.Pins.Epoch + 1, math.MaxUint64})
	}
	return o
}

// P15.3: long rows, by chance; one in some has an op of no kind.
func TestRunByChance(t *testing.T) {
	c := chance(31)
	met, tells, passes := map[api.Errno]int{}, map[int]int{}, map[int]int{}
	for _, r := range append(small(), wide()...) {
		var l []api.EpochOp
		for range c.below(40) {
			l = append(l, c.next(r))
		}
		if len(l) > 0 && c.below(5) == 0 {
			l[c.below(len(l))].Kind = one(&c, noKinds)
		}
		told, passed, e := holdRun(t, r, l)
		met[e]++
		tells[told]++
		passes[passed]++
	}
	if met[api.OK] < 500 || met[api.ErrEpOp] < 100 || len(met) != 2 || len(tells) < 6 || len(passes) < 20 {
		t.Errorf("errors %v, told %v, passed %v", met, tells, passes)
	}
}

// P15.3: in numbers: rows of which no op, one in the middle, or each one is passed over; and one with an op of no kind.
func TestRunInNumbers(t *testing.T) {
	for _, c := range []struct {
		from, ops, to, told string
		passed              int
		e                   api.Errno
	}{
		{"0 - | f f | ", "", "0 - | f f | ", "", 0, api.OK},
		{"5 4 | r l1 f2 | 0; ; ", "", "5 4 | r l1 f2 | 0; ; ", "", 0, api.OK},
		{"0 - - | f f f | ", "take, take, 0 pin, retire 0, go", "1 0 - | r l f | ; 0; ", "0 1", 0, api.OK},
		{"0 - - | f f f | ", "take, take, 0 pin, retire 0, go, go, go", "1 0 - | r l f | ; 0; ", "0 1", 2, api.OK},
		{"0 - | f f | ", "take, go, take, take, go", "2 - | l l | ", "0 1", 1, api.OK},
		{"0 - | f f | ", "take, retire 0, go, go, free, take", "2 - | l1 f | ", "0 0 0.1", 0, api.OK}, // an entry of zeros is told, too
		{"0 - | f f | ", "take, back 0, take, back 0, back 0.1, take", "0 - | l2 f | ", "0 0.1 0.2", 1, api.OK},
		{"5 - | l l | ", "take, free, 0 unpin, back 2, retire 0.1", "5 - | l l | ", "", 5, api.OK},
		{"5 - | l l | ", "7 pin, -1 pin, 0 pin 6, 7 unpin, 0 unpin", "5 - | l l | ", "", 5, api.OK}, // ErrArg is passed over, too
		{"^ - | l l | ", "go, go", "^ - | l l | ", "", 2, api.OK},
		{"^-1 - | l l | ", "go, go", "^ - | l l | ", "", 1, api.OK},
		{"5 - | r^ r | 0 1; ; ", "free, go, free, go", "5 - | r^ r | 0 1; ; ", "", 4, api.OK},
		{"5 - | r l | 0; ; ", "go, free, go, retire 1, free", "6 - | f1 r | ; ; 1", "0", 2, api.OK},
		{"5 - | r1 r2 r3 | 2 0 1; ; ", "free, free, free, free, take", "5 - | l2 f3 f4 | ", "2.3 0.1 1.2 0.2", 1, api.OK},
		{"0 - - | f f f | ", "none 0", "", "", 0, api.ErrEpOp},
		{"0 - - | f f f | ", "none 8, take", "", "", 0, api.ErrEpOp},
		{"0 - - | f f f | ", "take, none 8, take", "", "", 0, api.ErrEpOp},
		{"0 - - | f f f | ", "take, free, take, none 9", "", "", 0, api.ErrEpOp},
	} {
		got, told, passed, e := epoch.Run(read(c.from), ops(c.ops)...)
		if !alone(got, read(c.to)) || !slices.Equal(told, entries(c.told)) || passed != c.passed || e != c.e {
			t.Errorf("Run(%s, %s): %v, %v, %d, %d, not %s, %s, %d, %d", c.from, c.ops, got, told, passed, e, c.to, c.told, c.passed, c.e)
		}
	}
}

// P15.3: at each place of a row: what can't be done is passed over, and changes nothing; what is of no kind is told.
func TestRunOfEachPlace(t *testing.T) {
	from := read("5 - - 5 | f f1 r2 r3 l4 r5 | 2; 3; 5")
	row := ops("0 pin, take, free, retire 4.4, 0 unpin, go, take, back 1.1, free, 1 pin 1, retire 0, 2 unpin, 1 unpin, go, free, free, go")
	want, wantTold, wantPassed, e := epoch.Run(from, row...)
	if e != api.OK || wantPassed != 0 {
		t.Fatalf("%v, %v, %d, %d", want, wantTold, wantPassed, e)
	}
	for place := range len(row) + 1 {
		for _, o := range ops("3 pin, -1 unpin, 0 pin 99, back 5, back 127, retire 2, retire 1.3, retire 4") {
			l := slices.Insert(slices.Clone(row), place, o)
			if got, told, passed, e := epoch.Run(from, l...); !alone(got, want) || !slices.Equal(told, wantTold) || passed != 1 || e != api.OK {
				t.Errorf("%v at %d: %v, %v, %d, %d", o, place, got, told, passed, e)
			}
		}
		for _, kind := range noKinds {
			l := slices.Insert(slices.Clone(row), place, api.EpochOp{Kind: kind})
			if got, told, passed, e := epoch.Run(from, l...); !nothing(got) || told != nil || passed != 0 || e != 251 {
				t.Errorf("the kind %d at %d: %v, %v, %d, %d", kind, place, got, told, passed, e)
			}
		}
	}
}

// P15.3, P15.2: a row comes to what its ops come to, one by one.
func TestRunIsOneByOne(t *testing.T) {
	c := chance(5)
	for _, r := range wide() {
		want, wantPassed := copied(r), 0
		var l []api.EpochOp
		var wantTold []api.Entry
		for range 60 {
			o := c.next(want)
			l = append(l, o)
			next, told, e := epoch.Do(want, o)
			if e != api.OK {
				wantPassed++
				continue
			}
			if want = next; o.Kind == api.EpTake || o.Kind == api.EpFree {
				wantTold = append(wantTold, told)
			}
		}
		if got, told, passed, e := epoch.Run(r, l...); !alone(got, want) || !slices.Equal(told, wantTold) || passed != wantPassed || e != api.OK {
			t.Fatalf("Run(%v, %v): %v, %v, %d, %d, not %v, %v, %d", r, l, got, told, passed, e, want, wantTold, wantPassed)
		}
	}
}

// P15.3: a long row.
func TestRunOfMany(t *testing.T) {
	var l []api.EpochOp
	for gen := range uint64(3000) {
		l = append(l, ops("take, 0 pin")...)
		l = append(l, api.EpochOp{Kind: api.EpRetire, Entry: api.Entry{Gen: gen}})
		l = append(l, ops("free, 1 pin, go, 0 unpin, 1 unpin, go, free")...)
	}
	r, _ := epoch.New(2, 2)
	got, told, passed, e := epoch.Run(r, l...)
	if !alone(got, read("6000 - - | f3000 f | ")) || len(told) != 6000 || told[5999] != (api.Entry{Gen: 2999}) || passed != 3000 || e != api.OK {
		t.Errorf("Run: %v, %d told, %d, %d", got, len(told), passed, e)
	}
}

// P15.3: ErrReclaim goes ahead of all else, of the empty row, too.
func TestRunOfNoReclaim(t *testing.T) {
	for _, r := range noReclaims() {
		was := copied(r)
		for _, text := range []string{"", "take", "go, free", "none 8", "7 pin, none 0, take"} {
			if got, told, passed, e := epoch.Run(r, ops(text)...); !nothing(got) || told != nil || passed != 0 || e != 250 {
				t.Fatalf("Run(%v, %s): %v, %v, %d, %d", r, text, got, told, passed, e)
			}
		}
		if !alone(r, was) {
			t.Fatalf("%v was made %v", was, r)
		}
	}
}

// P15.3, R3: what is handed in stays as it is, the room behind its end, too, and is not kept; what is told is memory of its own, of the empty row, too.
func TestRunSharesNoMemory(t *testing.T) {
	for _, from := range []string{"5 - 4 | f3 l1 r2 r r7 l | 2; 3; 4", "6 - 6 | f l1 r r1 r2 r3 | ; 4 3; 5 2", "7 - - | l l f l | "} {
		for _, text := range []string{"", "take", "free", "1 unpin, go, free", "take, retire 1.1, go, go, free, 0 pin", "free, 7 pin, free, go, free, take, take"} {
			row := ops(text)
			room := append(slices.Clone(row), api.EpochOp{Kind: 3}, api.EpochOp{Kind: 8})
			was := slices.Clone(room)
			holdMemory(t, from+", "+text, read(from), func(r api.Reclaim) (api.Reclaim, []api.Entry) {
				got, told, _, e := epoch.Run(r, room[:len(row)]...)
				if e != api.OK || !slices.Equal(room, was) {
					t.Fatalf("Run(%v, %s): %d, %v", r, text, e, room)
				}
				return got, told
			})
		}
	}
}
