package group_test

import (
	"testing"

	"honeycomb/api"
	"honeycomb/group"
)

// held is whether a group stands: it may be, and its slots are those of what is wanted, all eight of them.
func held(got, want api.Group, e api.Errno) bool {
	return got == want && (e != api.OK || group.Check(got) == api.OK)
}

func holdPut(t *testing.T, g api.Group, key, value uint64, h2 byte) {
	t.Helper()
	want, wantLane, no := slotsOf(g).putBy(key, value, h2)
	got, lane, e := group.Put(g, key, value, h2)
	if !held(got, want, e) || lane != wantLane || e != no {
		t.Fatalf("Put(%v, %d, %d, %d): %v, %d, %d, not %v, %d, %d", g, key, value, h2, got, lane, e, want, wantLane, no)
	}
	if e != api.OK {
		return
	}
	if at, _, e := group.Find(got, key, h2); at != lane || e != api.OK || got.Values[at] != value { // P10.7: what is put is found
		t.Fatalf("Put(%v, %d, %d, %d): found in %d, %d", g, key, value, h2, at, e)
	}
	holdOthers(t, g, got, key)
}

func holdSet(t *testing.T, g api.Group, lane int, value uint64) {
	t.Helper()
	want, no := slotsOf(g).setBy(lane, value)
	if got, e := group.Set(g, lane, value); !held(got, want, e) || e != no {
		t.Fatalf("Set(%v, %d, %d): %v, %d, not %v, %d", g, lane, value, got, e, want, no)
	}
}

func holdDrop(t *testing.T, g api.Group, key uint64, h2 byte) {
	t.Helper()
	want, wantLane, no := slotsOf(g).dropBy(key, h2)
	got, lane, e := group.Drop(g, key, h2)
	if !held(got, want, e) || lane != wantLane || e != no {
		t.Fatalf("Drop(%v, %d, %d): %v, %d, %d, not %v, %d, %d", g, key, h2, got, lane, e, want, wantLane, no)
	}
	if e != api.OK {
		return
	}
	if got.Keys != g.Keys || got.Values != g.Values {
		t.Fatalf("Drop(%v, %d, %d): %v, of which a key or value did not stay", g, key, h2, got)
	}
	if _, _, e := group.Find(got, key, h2); e != api.ErrNone { // P10.7: what is dropped is not found
		t.Fatalf("Drop(%v, %d, %d): Find: %d", g, key, h2, e)
	}
	empty, deleted := group.Free(g)
	more := [2]int{empty, deleted + 1}
	if empty > 0 { // P10.7: one more empty
		more = [2]int{empty + 1, deleted}
	}
	if empty, deleted := group.Free(got); more != [2]int{empty, deleted} {
		t.Fatalf("Drop(%v, %d, %d): %d empty, %d deleted", g, key, h2, empty, deleted)
	}
	holdOthers(t, g, got, key)
}

// holdOthers: all keys but one are found where they were, with the values that they had (P10.7).
func holdOthers(t *testing.T, was, is api.Group, key uint64) {
	t.Helper()
	for _, lane := range slotsOf(was).fullBy() {
		k, h2 := was.Keys[lane], byte(was.Ctrl>>(8*lane))
		if k == key {
			continue
		}
		if at, _, e := group.Find(is, k, h2); at != lane || e != api.OK || is.Values[at] != was.Values[lane] {
			t.Fatalf("%v, then %v: %d is found in %d, %d", was, is, k, at, e)
		}
	}
}

// P10.3, P10.7: of all rows of sorts, a key that no slot has, one that some slot has, and one that a slot has that is not full.
func TestPut(t *testing.T) {
	for n, g := range groups() {
		h2 := []byte{0, 5, 127}[n%3]
		holdPut(t, g, 1000, uint64(n), h2)
		holdPut(t, g, g.Keys[n%8], uint64(n), h2)
		holdPut(t, g, g.Keys[(n+5)%8], 0, byte(n%256))
	}
}

// P10.3: the key of each slot, and one that none has, by each H2 there is, and each number beyond.
func TestPutOfEachByte(t *testing.T) {
	for n, g := range few() {
		for h2 := range 256 {
			holdPut(t, g, 1000, 7, byte(h2))
			holdPut(t, g, g.Keys[(n+h2)%8], 7, byte(h2))
		}
	}
}

// P10.3: in numbers; ErrArg ahead of ErrThere, ErrThere ahead of ErrFull.
func TestPutInNumbers(t *testing.T) {
	keys := [8]uint64{1, 2, 3, 4, 5, 6, 7, 8}
	for _, c := range []struct {
		ctrl, key uint64
		h2        byte
		want      uint64
		lane      int
		e         api.Errno
	}{
		{0x8080808080808080, 9, 5, 0x8080808080808005, 0, api.OK},
		{0x8080808080808080, 8, 0, 0x8080808080808000, 0, api.OK}, // as it is in a slot that is not full
		{0xfefefefefefefefe, 9, 127, 0xfefefefefefefe7f, 0, api.OK},
		{0x8003030303030303, 9, 5, 0x0503030303030303, 7, api.OK},
		{0xfe03030303030303, 8, 5, 0x0503030303030303, 7, api.OK},
		{0x0303030380030303, 9, 5, 0x0303030305030303, 3, api.OK},
		{0x800380fe03030303, 9, 5, 0x8003800503030303, 4, api.OK}, // a deleted one lies ahead of the empty ones
		{0xfe03fe8003030303, 9, 5, 0xfe03fe0503030303, 4, api.OK}, // an empty one ahead of the deleted ones
		{0x8003030303030303, 1, 3, 0, 0, api.ErrThere},
		{0x8003030303030303, 7, 4, 0, 0, api.ErrThere}, // with another H2
		{0x8003030303030303, 8, 3, 0x0303030303030303, 7, api.OK},
		{0x0303030303030303, 9, 3, 0, 0, api.ErrFull},
		{0x0303030303030303, 9, 127, 0, 0, api.ErrFull},
		{0x0303030303030303, 8, 3, 0, 0, api.ErrThere},
		{0x0303030303030303, 1, 9, 0, 0, api.ErrThere},
		{0x0303030303030303, 1, 128, 0, 0, api.ErrArg},
		{0x0303030303030303, 9, 128, 0, 0, api.ErrArg},
		{0x8003030303030303, 1, 255, 0, 0, api.ErrArg},
		{0x8003030303030303, 9, 254, 0, 0, api.ErrArg},
		{0x8003030303030381, 9, 254, 0, 0, api.ErrGroup},
		{0x0303030303030381, 8, 3, 0, 0, api.ErrGroup},
		{0x0303030303030381, 9, 3, 0, 0, api.ErrGroup},
		{0x8003030303030381, 9, 3, 0, 0, api.ErrGroup},
	} {
		g := api.Group{Ctrl: c.ctrl, Keys: keys, Values: keys}
		want := api.Group{}
		if c.e == api.OK {
			want = g
			want.Ctrl, want.Keys[c.lane], want.Values[c.lane] = c.want, c.key, 1<<63|99
		}
		if got, lane, e := group.Put(g, c.key, 1<<63|99, c.h2); got != want || lane != c.lane || e != c.e {
			t.Errorf("Put(%#x; %d, %d): %v, %d, %d, not %v, %d, %d", c.ctrl, c.key, c.h2, got, lane, e, want, c.lane, c.e)
		}
	}
}

// P10.3: of all rows of sorts, each slot.
func TestSet(t *testing.T) {
	for n, g := range groups() {
		for lane := range 8 {
			holdSet(t, g, lane, uint64(n)<<40)
		}
	}
	for _, g := range few() {
		for lane := range 8 {
			for _, value := range []uint64{0, 1, 1 << 63, 1<<64 - 1, g.Values[lane]} {
				holdSet(t, g, lane, value)
			}
		}
		for _, lane := range noLanes {
			if got, e := group.Set(g, lane, 7); got != (api.Group{}) || e != api.ErrLane {
				t.Fatalf("Set(%v, %d): %v, %d, not ErrLane", g, lane, got, e)
			}
		}
	}
}

// P10.3: in numbers.
func TestSetInNumbers(t *testing.T) {
	g := api.Group{Ctrl: 0x0080fe057f808000, Keys: [8]uint64{1, 2, 3, 4, 5, 6, 7, 8}, Values: [8]uint64{10, 20, 30, 40, 50, 60, 70, 80}}
	for lane, want := range map[int]api.Errno{-1: api.ErrLane, 0: api.OK, 1: api.ErrNone, 2: api.ErrNone, 3: api.OK, 4: api.OK, 5: api.ErrNone, 6: api.ErrNone, 7: api.OK, 8: api.ErrLane, 256: api.ErrLane} {
		behind := api.Group{}
		if want == api.OK {
			behind = g
			behind.Values[lane] = 99
		}
		if got, e := group.Set(g, lane, 99); got != behind || e != want {
			t.Errorf("Set(%d): %v, %d, not %v, %d", lane, got, e, behind, want)
		}
	}
}

// P10.4, P10.7: of all rows of sorts, the key of each slot, full or not, by its own H2, and by others.
func TestDrop(t *testing.T) {
	for n, g := range groups() {
		for lane, s := range slotsOf(g) {
			holdDrop(t, g, s.key, s.b)
			if n%8 == lane {
				holdDrop(t, g, s.key, fewH2s[n/8%8])
			}
		}
	}
}

// P10.4: each H2 there is, and each number beyond.
func TestDropOfEachByte(t *testing.T) {
	for n, g := range few() {
		for h2 := range 256 {
			holdDrop(t, g, g.Keys[n%8], byte(h2))
			holdDrop(t, g, 1000, byte(h2))
		}
	}
}

// P10.4: in numbers; ErrArg ahead of ErrNone.
func TestDropInNumbers(t *testing.T) {
	for _, c := range []struct {
		ctrl, key uint64
		h2        byte
		want      uint64
		lane      int
		e         api.Errno
	}{
		{0x0303030303030303, 1, 3, 0x03030303030303fe, 0, api.OK},
		{0x0303030303030303, 8, 3, 0xfe03030303030303, 7, api.OK},
		{0x0303030303030380, 8, 3, 0x8003030303030380, 7, api.OK},
		{0x03030303030303fe, 4, 3, 0x03030303fe0303fe, 3, api.OK},
		{0xfe030380fe030003, 2, 0, 0xfe030380fe038003, 1, api.OK},
		{0xfe030380fe037f03, 2, 127, 0xfe030380fe038003, 1, api.OK},
		{0xfe030380fe037f03, 2, 3, 0, 0, api.ErrNone},  // it has another H2
		{0xfe030380fe037f03, 8, 3, 0, 0, api.ErrNone},  // in a slot that is deleted
		{0xfe030380fe037f03, 5, 3, 0, 0, api.ErrNone},  // in a slot that is empty
		{0xfe030380fe037f03, 9, 3, 0, 0, api.ErrNone},  // in none
		{0xfe030380fe037f03, 8, 254, 0, 0, api.ErrArg}, // as its slot's byte
		{0xfe030380fe037f03, 5, 128, 0, 0, api.ErrArg}, // so
		{0xfe030380fe037f03, 1, 131, 0, 0, api.ErrArg}, // though it is there
		{0xfe030380fe037f03, 9, 255, 0, 0, api.ErrArg}, // nor is it there
		{0xfe030380ff037f03, 1, 3, 0, 0, api.ErrGroup}, // though it is there
		{0xfe030380ff037f03, 9, 3, 0, 0, api.ErrGroup}, // nor is it there
		{0xfe030380ff037f03, 9, 255, 0, 0, api.ErrGroup},
	} {
		g := api.Group{Ctrl: c.ctrl, Keys: [8]uint64{1, 2, 3, 4, 5, 6, 7, 8}, Values: [8]uint64{10, 20, 30, 40, 50, 60, 70, 80}}
		want := api.Group{}
		if c.e == api.OK {
			want = g
			want.Ctrl = c.want
		}
		if got, lane, e := group.Drop(g, c.key, c.h2); got != want || lane != c.lane || e != c.e {
			t.Errorf("Drop(%#x; %d, %d): %v, %d, %d, not %v, %d, %d", c.ctrl, c.key, c.h2, got, lane, e, want, c.lane, c.e)
		}
	}
}

// P10.3, P10.4, P10.7: of all rows of sorts, each key is dropped, dropped again, and put again, by another H2.
func TestDroppedTwiceAndPut(t *testing.T) {
	for n, g := range groups() {
		full := slotsOf(g).fullBy()
		if len(full) == 0 {
			continue
		}
		lane := full[n%len(full)]
		key, h2 := g.Keys[lane], byte(g.Ctrl>>(8*lane))
		less, at, e := group.Drop(g, key, h2)
		if at != lane || e != api.OK {
			t.Fatalf("Drop(%v, %d, %d): %d, %d", g, key, h2, at, e)
		}
		if no, at, e := group.Drop(less, key, h2); no != (api.Group{}) || at != 0 || e != api.ErrNone {
			t.Fatalf("Drop(%v, %d, %d), once more: %v, %d, %d", less, key, h2, no, at, e)
		}
		holdPut(t, less, key, 3, h2)
		holdPut(t, less, key, 3, h2^1)
	}
}

// P10.7: whatever is dropped, one behind the other: as long as a slot is empty, one more is empty with each; else one more is deleted.
func TestDroppedOneByOne(t *testing.T) {
	for _, g := range append(groups(), few()...) {
		left := g
		for _, lane := range []int{3, 0, 6, 1, 7, 4, 2, 5} {
			if b := byte(left.Ctrl >> (8 * lane)); isFull(b) {
				holdDrop(t, left, left.Keys[lane], b)
				left, _, _ = group.Drop(left, left.Keys[lane], b)
			}
		}
		empty, deleted := group.Free(g)
		wantEmpty, wantDeleted := 8-deleted, deleted
		if empty == 0 {
			wantEmpty, wantDeleted = 0, 8
		}
		if empty, deleted := group.Free(left); empty != wantEmpty || deleted != wantDeleted || left.Keys != g.Keys || left.Values != g.Values {
			t.Fatalf("%v, of which all is dropped: %v", g, left)
		}
	}
}

// P10.3, P10.4, R2: ErrGroup goes ahead of all else, and stands alone, whether what comes with it is right, or wrong.
func TestChangesOfNoGroup(t *testing.T) {
	for _, g := range noGroups() {
		for _, h2 := range append([]byte{0, 5, 6, 127}, noH2s...) {
			for _, key := range append(g.Keys[:], 1000) {
				if got, lane, e := group.Put(g, key, 7, h2); got != (api.Group{}) || lane != 0 || e != api.ErrGroup {
					t.Fatalf("Put(%v, %d, %d): %v, %d, %d", g, key, h2, got, lane, e)
				}
				if got, lane, e := group.Drop(g, key, h2); got != (api.Group{}) || lane != 0 || e != api.ErrGroup {
					t.Fatalf("Drop(%v, %d, %d): %v, %d, %d", g, key, h2, got, lane, e)
				}
			}
		}
		for _, lane := range append([]int{0, 1, 2, 3, 4, 5, 6, 7}, noLanes...) {
			if got, e := group.Set(g, lane, 7); got != (api.Group{}) || e != api.ErrGroup {
				t.Fatalf("Set(%v, %d): %v, %d", g, lane, got, e)
			}
		}
	}
}

// P10.3, P10.4, P10.6, R3, R5: a group that is handed in stays as it was, and comes to the same again.
func TestGroupsStay(t *testing.T) {
	for _, g := range few() {
		was := g
		for range 2 {
			put, _, _ := group.Put(g, 1000, 7, 5)
			put.Keys[0]++
			less, _, _ := group.Drop(g, g.Keys[0], byte(g.Ctrl))
			less.Values[0]++
			set, _ := group.Set(g, 0, 7)
			set.Ctrl++
			puts, _ := group.Puts(g, api.Slot{Key: 1000}, api.Slot{Key: 1001})
			puts.Keys[1]++
			if g != was {
				t.Fatalf("%v was %v", g, was)
			}
			holdPut(t, g, 1000, 7, 5)
			holdDrop(t, g, g.Keys[0], byte(g.Ctrl))
			holdSet(t, g, 0, 7)
		}
	}
}
