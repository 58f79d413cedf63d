package epoch_test

import (
	"math"
	"slices"
	"testing"

	"honeycomb/api"
	"honeycomb/epoch"
)

// P15.1: each number of goroutines, and of slabs, that there may be.
func TestNew(t *testing.T) {
	for goers := 1; goers <= mostGoers; goers++ {
		for slabs := leastSlabs; slabs <= mostSlabs; slabs++ {
			r, e := epoch.New(goers, slabs)
			want := api.Reclaim{Arena: api.Arena{Slabs: make([]api.Slab, slabs)}, Pins: api.Pins{Slots: make([]uint64, goers)}}
			if e != api.OK || !alone(r, want) {
				t.Fatalf("New(%d, %d): %v, %d", goers, slabs, r, e)
			}
			if e := epoch.Check(r); e != api.OK || epoch.Waits(r) != 0 {
				t.Fatalf("New(%d, %d): Check tells %d, %d wait", goers, slabs, e, epoch.Waits(r))
			}
		}
	}
}

// P15.1: one fewer, one more, and others of which there may not be so many; of both, too.
func TestNewOfWrongNumbers(t *testing.T) {
	noGoers := []int{0, -1, -8, 9, 10, 128, 1 << 32, 1<<32 + 1, math.MinInt, math.MaxInt}
	noSlabs := []int{1, 0, -1, -2, 129, 130, 256, 1 << 32, 1<<32 + 2, math.MinInt, math.MaxInt}
	for _, goers := range append([]int{1, 4, 8}, noGoers...) {
		for _, slabs := range append([]int{2, 40, 128}, noSlabs...) {
			if !slices.Contains(noGoers, goers) && !slices.Contains(noSlabs, slabs) {
				continue
			}
			if r, e := epoch.New(goers, slabs); !nothing(r) || e != 2 {
				t.Errorf("New(%d, %d): %v, %d", goers, slabs, r, e)
			}
		}
	}
}

// P15.1, R3: what New tells is new each time.
func TestNewIsNew(t *testing.T) {
	r, _ := epoch.New(3, 5)
	spoilAll(r)
	if r, e := epoch.New(3, 5); !alone(r, read("0 - - - | f f f f f")) || e != api.OK {
		t.Errorf("New, again: %v, %d", r, e)
	}
}

// P15.1: ErrReclaim, or OK.
func TestCheck(t *testing.T) {
	for _, r := range slices.Concat(small(), wide(), plains()) {
		was := copied(r)
		if e := epoch.Check(r); e != api.OK {
			t.Fatalf("Check(%v): %d, not OK", r, e)
		}
		if !alone(r, was) {
			t.Fatalf("%v was made %v", was, r)
		}
	}
	for _, r := range noReclaims() {
		was := copied(r)
		if e := epoch.Check(r); e != 250 {
			t.Fatalf("Check(%v): %d, not ErrReclaim", r, e)
		}
		if !alone(r, was) {
			t.Fatalf("%v was made %v", was, r)
		}
	}
}

// P15.1: by chance: a part of one reclaim beside those of another one.
func TestCheckOfMixedParts(t *testing.T) {
	c := chance(3)
	all := slices.Concat(small(), wide(), noReclaims())
	met := map[bool]int{}
	for range 60000 {
		r, other := one(&c, all), one(&c, all)
		switch c.below(4) {
		case 0:
			r.Arena = other.Arena
		case 1:
			r.Pins = other.Pins
		case 2:
			r.Limbo = other.Limbo
		case 3:
			r.Pins.Epoch, r.Limbo.Epoch = other.Pins.Epoch, other.Pins.Epoch
		}
		may := mayBy(r)
		met[may]++
		if e := epoch.Check(r); (e == api.OK) != may || !may && e != api.ErrReclaim {
			t.Fatalf("Check(%v): %d, not %t", r, e, may)
		}
	}
	if met[true] < 3000 || met[false] < 3000 {
		t.Errorf("so many may be, or may not: %v", met)
	}
}

// P15.1: in numbers: entries that wait, and slabs that are retired, in whatever order, and of whatever epoch.
func TestCheckInNumbers(t *testing.T) {
	slabs := read("5 - | f1 l2 r3 r4 | 2; 3; ").Arena
	for _, c := range []struct {
		a, b, c string // the rows, by their numbers
		may     bool
	}{
		{"2.3 3.4", "", "", true},
		{"3.4 2.3", "", "", true},
		{"3.4", "", "2.3", true},
		{"", "2.3", "3.4", true},
		{"", "", "", false},
		{"2.3", "", "", false},
		{"", "", "3.4", false},
		{"2.3 3.3", "", "", false},
		{"2.3", "3.5", "", false},
		{"2.4", "3.3", "", false},
		{"2.3", "3.4", "0.1", false},
		{"2.3", "1.2", "", false},
		{"2.3", "3.4", "1.2", false},
		{"2.3", "3.4", "4", false},
		{"2.3", "3.4", "127", false},
		{"2.3", "3.4", "2.3", false},
		{"2.3", "3.4", "3.5", false},
		{"2.3 3.4 -1", "", "", false},
		{"2.3 2.3", "", "", false},
		{"3.4 3.4", "", "", false},
	} {
		r := api.Reclaim{Arena: slabs, Pins: api.Pins{Epoch: 5, Slots: []uint64{0}}}
		r.Limbo = api.Limbo{Epoch: 5, Rows: [3][]api.Entry{entries(c.a), entries(c.b), entries(c.c)}}
		if e := epoch.Check(r); (e == api.OK) != c.may || !c.may && e != api.ErrReclaim {
			t.Errorf("Check(%v): %d", r, e)
		}
	}
}

// P15.1: all pairs of few; those that may not be are asked as they stand, too.
func TestSame(t *testing.T) {
	var l []api.Reclaim
	for n, r := range slices.Concat(small(), wide(), noReclaims()) {
		if n%7 == 0 {
			l = append(l, r)
		}
	}
	for n, r := range l {
		if !epoch.Same(r, copied(r)) {
			t.Fatalf("%v is not the same as itself", r)
		}
		for _, other := range l[:n] {
			if want := alone(r, other); epoch.Same(r, other) != want || epoch.Same(other, r) != want {
				t.Fatalf("Same(%v, %v), not %t", r, other, want)
			}
		}
	}
}

// P15.1: whatever part is another one, they are not the same; whether they may be, or not.
func TestSameOfEachPart(t *testing.T) {
	wrong := api.Reclaim{Arena: api.Arena{Slabs: []api.Slab{{Tag: 7, Gen: math.MaxUint64}}}, Pins: api.Pins{Epoch: math.MaxUint64, Slots: []uint64{5}}}
	wrong.Limbo.Rows[1] = []api.Entry{{Slab: -4}, {Slab: -4}}
	for _, r := range append(plains(), api.Reclaim{}, wrong) {
		var others []api.Reclaim
		add := func(change func(r *api.Reclaim)) { others = append(others, changed(r, change)) }
		for _, bit := range []int{0, 1, 2, 7, 31, 32, 40, 62, 63} {
			add(func(r *api.Reclaim) { r.Pins.Epoch ^= 1 << bit })
			add(func(r *api.Reclaim) { r.Limbo.Epoch ^= 1 << bit })
			add(func(r *api.Reclaim) { r.Pins.Epoch, r.Limbo.Epoch = r.Pins.Epoch^1<<bit, r.Limbo.Epoch^1<<bit })
			for goer := range r.Pins.Slots {
				add(func(r *api.Reclaim) { r.Pins.Slots[goer] ^= 1 << bit })
			}
			for slab := range r.Arena.Slabs {
				add(func(r *api.Reclaim) { r.Arena.Slabs[slab].Gen ^= 1 << bit })
				add(func(r *api.Reclaim) { r.Arena.Slabs[slab].Tag ^= 1 << bit })
			}
			for n, row := range r.Limbo.Rows {
				for place := range row {
					add(func(r *api.Reclaim) { r.Limbo.Rows[n][place].Gen ^= 1 << bit })
					add(func(r *api.Reclaim) { r.Limbo.Rows[n][place].Slab ^= 1 << bit })
				}
			}
		}
		add(func(r *api.Reclaim) { r.Arena.Slabs = append(r.Arena.Slabs, api.Slab{}) })
		add(func(r *api.Reclaim) { r.Pins.Slots = append(r.Pins.Slots, 0) })
		for n, row := range r.Limbo.Rows {
			add(func(r *api.Reclaim) { r.Limbo.Rows[n] = append(r.Limbo.Rows[n], api.Entry{}) })
			if len(row) > 0 {
				add(func(r *api.Reclaim) { r.Limbo.Rows[n] = row[:len(row)-1] })
				add(func(r *api.Reclaim) {
					r.Limbo.Rows[n], r.Limbo.Rows[(n+1)%3] = nil, append(r.Limbo.Rows[(n+1)%3], row...)
				})
			}
			if len(row) > 1 && row[0] != row[1] {
				add(func(r *api.Reclaim) { slices.Reverse(r.Limbo.Rows[n]) })
			}
		}
		for _, other := range others {
			if epoch.Same(r, other) || epoch.Same(other, r) {
				t.Errorf("Same(%v, %v)", r, other)
			}
		}
	}
}

// P15.1, R3: nil and empty lists are one, whatever room is behind them.
func TestSameOfNilAndEmpty(t *testing.T) {
	r := read("7 7 | l l | ")
	empty := copied(r)
	for n := range empty.Limbo.Rows {
		empty.Limbo.Rows[n] = entries("1 2")[:0]
	}
	room, _ := roomy(r)
	for _, other := range []api.Reclaim{empty, room} {
		if !epoch.Same(r, other) || !epoch.Same(other, r) || epoch.Check(other) != api.OK {
			t.Errorf("%v and %v are not the same", r, other)
		}
	}
	none := api.Reclaim{Arena: api.Arena{Slabs: []api.Slab{}}, Pins: api.Pins{Slots: []uint64{}}}
	if !epoch.Same(none, api.Reclaim{}) || epoch.Check(none) != api.ErrReclaim {
		t.Errorf("%v and the zero one are not the same", none)
	}
}

// P15.2 to P15.4: the chapter's examples.
func TestExamples(t *testing.T) {
	r, e := epoch.New(2, 3)
	then := func(text string, want string, no api.Errno) {
		t.Helper()
		next, told, e := epoch.Do(r, op(text))
		if e != no || told != entry(want) {
			t.Fatalf("%s: %v, %d, not %s, %d", text, told, e, want, no)
		}
		if e == api.OK {
			r = next
		}
	}
	try := func(want string) {
		t.Helper()
		next, given, _, e := epoch.Try(r)
		if e != api.OK || !slices.Equal(given, entries(want)) {
			t.Fatalf("Try: %v, %d, not %s", given, e, want)
		}
		r = next
	}
	then("take", "0.0", api.OK)
	then("take", "1.0", api.OK)
	then("0 pin", "0.0", api.OK)
	then("retire 0.0", "0.0", api.OK)
	try("")
	try("")
	if n := epoch.Waits(r); n != 1 || e != api.OK {
		t.Errorf("Waits: %d", n)
	}
	then("0 unpin", "0.0", api.OK)
	try("0.0")
	try("")
	then("free", "0.0", api.ErrNone)
	then("back 0.0", "0.0", api.ErrNone)
	then("back 1.0", "0.0", api.OK)
	then("1 pin", "0.0", api.OK)
	if none, given, e := epoch.Settle(r); !nothing(none) || len(given) > 0 || e != api.ErrHeld {
		t.Errorf("Settle: %v, %v, %d", none, given, e)
	}
}
