package group_test

import (
	"math"
	"slices"
	"testing"

	"honeycomb/api"
	"honeycomb/group"
)

// P10.1
func TestNew(t *testing.T) {
	g := group.New()
	if g != (api.Group{Ctrl: 0x8080808080808080}) {
		t.Errorf("New: %v", g)
	}
	if e := group.Check(g); e != api.OK {
		t.Errorf("Check(New): %d", e)
	}
	if empty, deleted := group.Free(g); empty != 8 || deleted != 0 {
		t.Errorf("Free(New): %d, %d", empty, deleted)
	}
	if l := group.Live(g); len(l) != 0 {
		t.Errorf("Live(New): %v", l)
	}
}

// P10.1: of all rows of sorts; the same key may be in a full slot, and in any number of others.
func TestCheck(t *testing.T) {
	for _, g := range append(groups(), few()...) {
		if e := group.Check(g); e != api.OK {
			t.Fatalf("Check(%v): %d, not OK", g, e)
		}
	}
	for _, g := range noGroups() {
		if e := group.Check(g); e != api.ErrGroup {
			t.Errorf("Check(%v): %d, not ErrGroup", g, e)
		}
	}
}

// P10.1: each byte there is, in each lane, beside all sorts of others.
func TestCheckOfEachByte(t *testing.T) {
	for _, g := range few()[:20] {
		for lane := range 8 {
			for b := range 256 {
				r := slotsOf(g)
				r[lane].b, r[lane].key = byte(b), 1000 // a key of its own
				want := api.ErrGroup
				if b <= 127 || b == 128 || b == 254 {
					want = api.OK
				}
				if e := group.Check(r.group()); e != want {
					t.Fatalf("Check(%v), where lane %d has %d: %d, not %d", r, lane, b, e, want)
				}
			}
		}
	}
}

// P10.1: the key of each slot is laid into each other one: that may be, just if not both are full.
func TestCheckOfTwins(t *testing.T) {
	for _, g := range groups() {
		for one := range 8 {
			r := slotsOf(g)
			r[one].key = r[(one+3)%8].key
			want := api.OK
			if !r.mayBy() {
				want = api.ErrGroup
			}
			if e := group.Check(r.group()); e != want {
				t.Fatalf("Check(%v): %d, not %d", r, e, want)
			}
		}
	}
	for _, g := range twins() {
		for lane := range 8 { // one that is full no more is none of two
			r := slotsOf(g)
			r[lane].b = []byte{128, 254}[lane%2]
			want := api.OK
			if !r.mayBy() {
				want = api.ErrGroup
			}
			if e := group.Check(r.group()); e != want {
				t.Fatalf("Check(%v): %d, not %d", r, e, want)
			}
		}
	}
}

// holdSame holds Same against the document's words, both ways.
func holdSame(t *testing.T, a, b api.Group) {
	t.Helper()
	r, s := slotsOf(a), slotsOf(b)
	if got := group.Same(a, b); got != r.sameBy(s) {
		t.Fatalf("Same(%v, %v): %t", a, b, got)
	}
	if got := group.Same(b, a); got != s.sameBy(r) {
		t.Fatalf("Same(%v, %v): %t", b, a, got)
	}
}

// P10.1: groups that differ in one slot: in its key, its value, its control byte; full slots among them, and others.
func TestSame(t *testing.T) {
	for n, g := range append(groups(), noGroups()...) {
		holdSame(t, g, g)
		lane := n % 8
		for change := range 5 {
			r := slotsOf(g)
			switch change {
			case 0:
				r[lane].key++
			case 1:
				r[lane].value ^= 1 << 63
			case 2:
				r[lane].b = (r[lane].b + 1) & 127
			case 3:
				r[lane].b = 128
			case 4:
				r[lane].b = 254
			}
			holdSame(t, g, r.group())
		}
	}
}

// P10.1: groups that differ in all slots that are not full are the same; those that differ in one more are not.
func TestSameButForTheRest(t *testing.T) {
	for _, g := range append(groups(), few()...) {
		r := slotsOf(g)
		for lane, s := range r {
			if !isFull(s.b) {
				r[lane].key, r[lane].value = s.key+1, s.value+1
			}
		}
		if !group.Same(g, r.group()) || !group.Same(r.group(), g) {
			t.Fatalf("%v and %v are not the same", g, r.group())
		}
		for _, lane := range r.fullBy() {
			other := r
			other[lane].value++
			if group.Same(g, other.group()) || group.Same(other.group(), g) {
				t.Fatalf("%v and %v are the same", g, other.group())
			}
			other = r
			other[lane].key++
			if group.Same(g, other.group()) || group.Same(other.group(), g) {
				t.Fatalf("%v and %v are the same", g, other.group())
			}
		}
	}
}

// P10.1: in numbers; groups that may not be are held against each other as they stand.
func TestSameInNumbers(t *testing.T) {
	one := api.Group{Ctrl: 0x80fe808080050905, Keys: [8]uint64{1, 2, 3, 4, 5, 6, 7, 8}, Values: [8]uint64{10, 20, 30, 40, 50, 60, 70, 80}}
	for n, c := range []struct {
		ctrl         uint64
		keys, values [8]uint64
		want         bool
	}{
		{0x80fe808080050905, [8]uint64{1, 2, 3, 4, 5, 6, 7, 8}, [8]uint64{10, 20, 30, 40, 50, 60, 70, 80}, true},
		{0x80fe808080050905, [8]uint64{1, 2, 3}, [8]uint64{10, 20, 30}, true},
		{0x80fe808080050905, [8]uint64{1, 2, 3, 1, 1, 1, 1, 1}, [8]uint64{10, 20, 30, 10, 10, 10, 10, 10}, true},
		{0x80fe808080050905, [8]uint64{0, 2, 3, 4, 5, 6, 7, 8}, [8]uint64{10, 20, 30, 40, 50, 60, 70, 80}, false},
		{0x80fe808080050905, [8]uint64{1, 2, 3, 4, 5, 6, 7, 8}, [8]uint64{10, 20, 31, 40, 50, 60, 70, 80}, false},
		{0x80fe808080090505, [8]uint64{1, 3, 2, 4, 5, 6, 7, 8}, [8]uint64{10, 30, 20, 40, 50, 60, 70, 80}, false},
		{0x80fe808080050906, [8]uint64{1, 2, 3, 4, 5, 6, 7, 8}, [8]uint64{10, 20, 30, 40, 50, 60, 70, 80}, false},
		{0x8080808080050905, [8]uint64{1, 2, 3, 4, 5, 6, 7, 8}, [8]uint64{10, 20, 30, 40, 50, 60, 70, 80}, false},
		{0x00fe808080050905, [8]uint64{1, 2, 3, 4, 5, 6, 7, 8}, [8]uint64{10, 20, 30, 40, 50, 60, 70, 80}, false},
		{0x80ff808080050905, [8]uint64{1, 2, 3, 4, 5, 6, 7, 8}, [8]uint64{10, 20, 30, 40, 50, 60, 70, 80}, false},
	} {
		other := api.Group{Ctrl: c.ctrl, Keys: c.keys, Values: c.values}
		if group.Same(one, other) != c.want || group.Same(other, one) != c.want {
			t.Errorf("%d. Same: %t, %t", n, group.Same(one, other), group.Same(other, one))
		}
	}
	twin := api.Group{Ctrl: 0x8080808080800505, Keys: [8]uint64{7, 7, 1}, Values: [8]uint64{1, 2, 3}}
	stale, other := twin, twin
	stale.Keys[2], other.Values[1] = 9, 9
	if !group.Same(twin, twin) || !group.Same(twin, stale) || group.Same(twin, other) {
		t.Errorf("Same of twins: %t, %t, %t", group.Same(twin, twin), group.Same(twin, stale), group.Same(twin, other))
	}
	wrong := api.Group{Ctrl: math.MaxUint64}
	if !group.Same(wrong, wrong) || !group.Same(wrong, api.Group{Ctrl: math.MaxUint64, Keys: [8]uint64{1}}) || group.Same(wrong, group.New()) {
		t.Errorf("Same of a word that may not be: %t", group.Same(wrong, wrong))
	}
}

// P10.5: of all rows of sorts; of what may not be, nothing.
func TestLiveAndFree(t *testing.T) {
	for _, g := range slices.Concat(groups(), few(), noGroups()) {
		r := slotsOf(g)
		if got := group.Live(g); !slices.Equal(got, r.liveBy()) {
			t.Fatalf("Live(%v): %v, not %v", g, got, r.liveBy())
		}
		wantEmpty, wantDeleted := r.freeBy()
		if empty, deleted := group.Free(g); empty != wantEmpty || deleted != wantDeleted {
			t.Fatalf("Free(%v): %d, %d, not %d, %d", g, empty, deleted, wantEmpty, wantDeleted)
		}
	}
}

// P10.5: in numbers.
func TestLiveAndFreeInNumbers(t *testing.T) {
	keys, values := [8]uint64{1, 2, 3, 4, 5, 6, 7, 8}, [8]uint64{10, 20, 30, 40, 50, 60, 70, 80}
	for _, c := range []struct {
		ctrl           uint64
		live           []api.Slot
		empty, deleted int
	}{
		{0x8080808080808080, nil, 8, 0},
		{0xfefefefefefefefe, nil, 0, 8},
		{0x80fe80fefe8080fe, nil, 4, 4},
		{0x808080808080807f, []api.Slot{{Key: 1, Value: 10, H2: 127}}, 7, 0},
		{0x00fefefefefefefe, []api.Slot{{Key: 8, Value: 80}}, 0, 7},
		{0x0580fe058080097f, []api.Slot{{Key: 1, Value: 10, H2: 127}, {Key: 2, Value: 20, H2: 9}, {Key: 5, Value: 50, H2: 5}, {Key: 8, Value: 80, H2: 5}}, 3, 1},
		{0x0303030303030303, []api.Slot{{Key: 1, Value: 10, H2: 3}, {Key: 2, Value: 20, H2: 3}, {Key: 3, Value: 30, H2: 3}, {Key: 4, Value: 40, H2: 3}, {Key: 5, Value: 50, H2: 3}, {Key: 6, Value: 60, H2: 3}, {Key: 7, Value: 70, H2: 3}, {Key: 8, Value: 80, H2: 3}}, 0, 0},
		{0x0303030303030381, nil, 0, 0},
		{0xff80808080808080, nil, 0, 0},
	} {
		g := api.Group{Ctrl: c.ctrl, Keys: keys, Values: values}
		if got := group.Live(g); !slices.Equal(got, c.live) {
			t.Errorf("Live of %#x: %v, not %v", c.ctrl, got, c.live)
		}
		if empty, deleted := group.Free(g); empty != c.empty || deleted != c.deleted {
			t.Errorf("Free of %#x: %d, %d, not %d, %d", c.ctrl, empty, deleted, c.empty, c.deleted)
		}
	}
	twin := api.Group{Ctrl: 0x8080808080fe0505, Keys: [8]uint64{7, 7}}
	if empty, deleted := group.Free(twin); empty != 0 || deleted != 0 || len(group.Live(twin)) != 0 {
		t.Errorf("Free, Live of twins: %d, %d, %v", empty, deleted, group.Live(twin))
	}
}

// P10.7: full, empty and deleted slots are eight together.
func TestEightTogether(t *testing.T) {
	for _, g := range append(groups(), few()...) {
		empty, deleted := group.Free(g)
		if many := len(group.Live(g)); many+empty+deleted != 8 {
			t.Fatalf("%v: %d, %d and %d slots", g, many, empty, deleted)
		}
	}
}

// P10.5, R3, R5: what full slots are is told anew each time, whatever was done with what was told ahead of it.
func TestToldSlotsAreNew(t *testing.T) {
	g := api.Group{Ctrl: 0x80fe808080050905, Keys: [8]uint64{1, 2, 3}, Values: [8]uint64{10, 20, 30}}
	want := []api.Slot{{Key: 1, Value: 10, H2: 5}, {Key: 2, Value: 20, H2: 9}, {Key: 3, Value: 30, H2: 5}}
	var told [][]api.Slot
	for range 3 {
		told = append(told, group.Live(g))
	}
	clear(told[0])
	told[1] = append(told[1], api.Slot{Key: 9})
	told[1][0].Value = 9
	if !slices.Equal(told[2], want) || !slices.Equal(group.Live(g), want) {
		t.Errorf("Live: %v, then %v", told[2], group.Live(g))
	}
}

// P10.1 to P10.6: the chapter's examples.
func TestExamples(t *testing.T) {
	g := group.New()
	for n, s := range []api.Slot{{Key: 5, Value: 50, H2: 1}, {Key: 6, Value: 60, H2: 1}, {Key: 7, Value: 70, H2: 2}} {
		put, lane, e := group.Put(g, s.Key, s.Value, s.H2)
		if lane != n || e != api.OK {
			t.Fatalf("Put of %d: %d, %d", s.Key, lane, e)
		}
		g = put
	}
	if g != (api.Group{Ctrl: 0x8080808080020101, Keys: [8]uint64{5, 6, 7}, Values: [8]uint64{50, 60, 70}}) {
		t.Fatalf("put: %v", g)
	}
	if l, e := group.Looks(g, 1); !slices.Equal(l, []int{0, 1}) || e != api.OK {
		t.Errorf("Looks(1): %v, %d", l, e)
	}
	if lane, looked, e := group.Find(g, 6, 1); lane != 1 || looked != 2 || e != api.OK {
		t.Errorf("Find(6, H2 1): %d, %d, %d", lane, looked, e)
	}
	if lane, looked, e := group.Find(g, 6, 2); lane != 0 || looked != 0 || e != api.ErrNone {
		t.Errorf("Find(6, H2 2): %d, %d, %d", lane, looked, e)
	}
	less, lane, e := group.Drop(g, 5, 1)
	if lane != 0 || e != api.OK {
		t.Errorf("Drop(5, 1): %d, %d", lane, e)
	}
	if empty, deleted := group.Free(less); empty != 6 || deleted != 0 {
		t.Errorf("Free behind Drop(5, 1): %d, %d", empty, deleted)
	}
	if _, lane, e := group.Put(less, 8, 80, 3); lane != 0 || e != api.OK {
		t.Errorf("Put(8, .., H2 3): %d, %d", lane, e)
	}
	if no, lane, e := group.Put(g, 7, 71, 9); no != (api.Group{}) || lane != 0 || e != api.ErrThere {
		t.Errorf("Put(7, .., H2 9): %v, %d, %d", no, lane, e)
	}
	if no, e := group.Set(g, 5, 1); no != (api.Group{}) || e != api.ErrNone {
		t.Errorf("Set(5, 1): %v, %d", no, e)
	}
	if l := group.Live(g); len(l) != 3 {
		t.Errorf("Live: %v", l)
	}
}
