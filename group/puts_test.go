package group_test

import (
	"math"
	"slices"
	"testing"

	"honeycomb/api"
	"honeycomb/group"
)

// holdPuts holds Puts against what is put one by one, by the document's words, and by Put.
func holdPuts(t *testing.T, g api.Group, l []api.Slot) {
	t.Helper()
	want, no := slotsOf(g).putsBy(l)
	got, e := group.Puts(g, l...)
	if !held(got, want, e) || e != no {
		t.Fatalf("Puts(%v; %v): %v, %d, not %v, %d", g, l, got, e, want, no)
	}
	if e != api.OK {
		return
	}
	one := g
	for _, s := range l {
		put, _, e := group.Put(one, s.Key, s.Value, s.H2)
		if at, _, no := group.Find(got, s.Key, s.H2); e != api.OK || no != api.OK || got.Values[at] != s.Value {
			t.Fatalf("Puts(%v; %v): %v; Put of %v: %d; Find of it: %d", g, l, got, s, e, no)
		}
		one = put
	}
	if one != got {
		t.Fatalf("Puts(%v; %v): %v, by Puts one by one %v", g, l, got, one)
	}
	holdOthers(t, g, got, math.MaxInt64)
}

// P10.6, P10.7: of all rows of sorts: no slots, one, each number of them up to as many as are free, one too many, and more.
func TestPuts(t *testing.T) {
	c := chance(106)
	for _, g := range groups() {
		for many := range 11 {
			l := make([]api.Slot, many)
			for n := range l {
				l[n] = api.Slot{Key: uint64(1000 + n), Value: c.word(), H2: byte(c.word() >> 57)}
			}
			holdPuts(t, g, l)
		}
	}
}

// P10.6: some keys are there already, some twice, some H2s are such as no slot can have: which of these comes first, falls as chance will.
func TestPutsByChance(t *testing.T) {
	c := chance(107)
	errors := map[api.Errno]int{}
	for range 4 {
		for _, g := range groups() {
			l := make([]api.Slot, 1+c.below(10))
			for n := range l {
				l[n] = api.Slot{Key: uint64(1000 + c.below(20)), Value: c.word(), H2: byte(c.word() >> 57)}
				switch c.below(24) {
				case 0:
					l[n].H2 += 128
				case 1:
					l[n].Key = g.Keys[c.below(8)]
				}
			}
			holdPuts(t, g, l)
			_, e := group.Puts(g, l...)
			errors[e]++
		}
	}
	for _, e := range []api.Errno{api.OK, api.ErrArg, api.ErrThere, api.ErrFull} {
		if errors[e] < 1000 {
			t.Errorf("%d is met %d times", e, errors[e])
		}
	}
}

// P10.6: in numbers.
func TestPutsInNumbers(t *testing.T) {
	slots := func(keys ...uint64) (l []api.Slot) {
		for _, key := range keys {
			l = append(l, api.Slot{Key: key, Value: 10 * key, H2: byte(key)})
		}
		return l
	}
	keys := [8]uint64{1, 2, 3, 4, 5, 6, 7, 8}
	for _, c := range []struct {
		ctrl uint64
		l    []api.Slot
		want uint64
		keys [8]uint64
		e    api.Errno
	}{
		{0x8080808080808080, nil, 0x8080808080808080, keys, api.OK},
		{0x0303030303030303, nil, 0x0303030303030303, keys, api.OK},
		{0x0303030303030303, []api.Slot{}, 0x0303030303030303, keys, api.OK},
		{0x8080808080808080, slots(9), 0x8080808080808009, [8]uint64{9, 2, 3, 4, 5, 6, 7, 8}, api.OK},
		{0x8080808080808080, slots(8, 7, 6, 5, 4, 3, 2, 1), 0x0102030405060708, [8]uint64{8, 7, 6, 5, 4, 3, 2, 1}, api.OK},
		{0x8080808080808080, slots(8, 7, 6, 5, 4, 3, 2, 1, 0), 0, [8]uint64{}, api.ErrFull},
		{0x8080808080808080, slots(8, 7, 6, 5, 4, 3, 2, 1, 1), 0, [8]uint64{}, api.ErrThere},
		{0x8080808080808080, slots(8, 7, 6, 5, 4, 3, 2, 1, 200), 0, [8]uint64{}, api.ErrArg},
		{0x8080808080808080, slots(8, 7, 6, 5, 4, 3, 2, 8, 200, 9), 0, [8]uint64{}, api.ErrThere},
		{0x80030380fe03fe03, slots(9), 0x80030380fe030903, [8]uint64{1, 9, 3, 4, 5, 6, 7, 8}, api.OK},
		{0x80030380fe03fe03, slots(9, 2, 4, 8), 0x0803030402030903, [8]uint64{1, 9, 3, 2, 4, 6, 7, 8}, api.OK},
		{0x80030380fe03fe03, slots(9, 2, 4, 8, 5), 0, [8]uint64{}, api.ErrFull},
		{0x80030380fe03fe03, slots(9, 9), 0, [8]uint64{}, api.ErrThere},
		{0x80030380fe03fe03, slots(9, 2, 4, 8, 9), 0, [8]uint64{}, api.ErrThere},
		{0x80030380fe03fe03, slots(9, 3), 0, [8]uint64{}, api.ErrThere},
		{0x80030380fe03fe03, slots(9, 200, 3), 0, [8]uint64{}, api.ErrArg},
		{0x80030380fe03fe03, slots(9, 3, 200), 0, [8]uint64{}, api.ErrThere},
		{0x0303030303030303, slots(9, 1, 200), 0, [8]uint64{}, api.ErrFull},
		{0x0303030303030303, slots(1, 9, 200), 0, [8]uint64{}, api.ErrThere},
		{0x0303030303030303, slots(200, 9, 1), 0, [8]uint64{}, api.ErrArg},
		{0x0303030303030381, nil, 0, [8]uint64{}, api.ErrGroup},
		{0x8080808080808081, slots(9), 0, [8]uint64{}, api.ErrGroup},
		{0x8080808080808081, slots(200), 0, [8]uint64{}, api.ErrGroup},
	} {
		want := api.Group{Ctrl: c.want, Keys: c.keys}
		if c.e == api.OK {
			want.Values = keys
			for lane, key := range c.keys {
				if c.want>>(8*lane)&255 != c.ctrl>>(8*lane)&255 {
					want.Values[lane] = 10 * key
				}
			}
		}
		if got, e := group.Puts(api.Group{Ctrl: c.ctrl, Keys: keys, Values: keys}, c.l...); got != want || e != c.e {
			t.Errorf("Puts(%#x; %v): %v, %d, not %v, %d", c.ctrl, c.l, got, e, want, c.e)
		}
	}
}

// P10.6: the same key twice, with the same value and H2, or others.
func TestPutsOfTwins(t *testing.T) {
	for _, g := range few() {
		for _, twin := range []api.Slot{{Key: 1000, Value: 7, H2: 5}, {Key: 1000, Value: 8, H2: 5}, {Key: 1000, Value: 7, H2: 6}} {
			one := api.Slot{Key: 1000, Value: 7, H2: 5}
			holdPuts(t, g, []api.Slot{one, twin})
			holdPuts(t, g, []api.Slot{one, {Key: 1001}, twin})
		}
	}
}

// P10.6, R2: ErrGroup goes ahead of all else, also of no slots.
func TestPutsOfNoGroup(t *testing.T) {
	for _, g := range noGroups() {
		for _, l := range [][]api.Slot{nil, {}, {{Key: 1000}}, {{Key: 1000, H2: 128}}, {{Key: g.Keys[0]}}, make([]api.Slot, 9)} {
			if got, e := group.Puts(g, l...); got != (api.Group{}) || e != api.ErrGroup {
				t.Fatalf("Puts(%v; %v): %v, %d", g, l, got, e)
			}
		}
	}
}

// P10.6, R1: very many slots end, too.
func TestPutsOfVeryMany(t *testing.T) {
	l := make([]api.Slot, 1<<20)
	for n := range l {
		l[n].Key = uint64(n)
	}
	if got, e := group.Puts(group.New(), l...); got != (api.Group{}) || e != api.ErrFull {
		t.Errorf("Puts of very many: %v, %d", got, e)
	}
}

// P10.6, R3: slots stay as they are, the room behind their end, too, which is not looked at; and are not kept.
func TestSlotsStay(t *testing.T) {
	room := []api.Slot{{Key: 1000, Value: 1, H2: 5}, {Key: 1001, Value: 2, H2: 5}, {Key: 1002, Value: 3, H2: 0}, {Key: 1000, H2: 255}, {Key: 7, H2: 128}, {Key: 1003}}
	was := slices.Clone(room)
	for many := range len(room) + 1 {
		for _, g := range append(few(), noGroups()...) {
			want, no := slotsOf(g).putsBy(was[:many])
			if got, e := group.Puts(g, room[:many]...); got != want || e != no {
				t.Fatalf("Puts(%v; %v): %v, %d, not %v, %d", g, was[:many], got, e, want, no)
			}
		}
	}
	if !slices.Equal(room, was) {
		t.Errorf("slots are %v, not %v", room, was)
	}
	got, e := group.Puts(group.New(), room[:3]...)
	clear(room)
	if e != api.OK || got != (api.Group{Ctrl: 0x8080808080000505, Keys: [8]uint64{1000, 1001, 1002}, Values: [8]uint64{1, 2, 3}}) {
		t.Errorf("Puts: %v, %d", got, e)
	}
}
