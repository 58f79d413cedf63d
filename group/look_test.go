package group_test

import (
	"slices"
	"testing"

	"honeycomb/api"
	"honeycomb/group"
)

func holdLooks(t *testing.T, g api.Group, h2 byte) {
	t.Helper()
	want, no := slotsOf(g).looksBy(h2)
	got, e := group.Looks(g, h2)
	if !slices.Equal(got, want) || e != no {
		t.Fatalf("Looks(%v, %d): %v, %d, not %v, %d", g, h2, got, e, want, no)
	}
	for _, lane := range got { // P10.7: no key of another H2
		if byte(g.Ctrl>>(8*lane)) != h2 {
			t.Fatalf("Looks(%v, %d): %v", g, h2, got)
		}
	}
}

func holdFind(t *testing.T, g api.Group, key uint64, h2 byte) {
	t.Helper()
	wantLane, wantLooked, no := slotsOf(g).findBy(key, h2)
	if lane, looked, e := group.Find(g, key, h2); lane != wantLane || looked != wantLooked || e != no {
		t.Fatalf("Find(%v, %d, %d): %d, %d, %d, not %d, %d, %d", g, key, h2, lane, looked, e, wantLane, wantLooked, no)
	}
}

// P10.2, P10.7: of all rows of sorts, and each H2 that one has, and others.
func TestLooks(t *testing.T) {
	for _, g := range groups() {
		for _, h2 := range []byte{0, 5, 9, 126, 127, 128, 254} {
			holdLooks(t, g, h2)
		}
	}
}

// P10.2: each H2 there is, and each number beyond, that no slot can have, though some lane has that byte.
func TestLooksOfEachByte(t *testing.T) {
	for _, g := range append(few(), noGroups()...) {
		for h2 := range 256 {
			holdLooks(t, g, byte(h2))
		}
	}
}

// P10.2: of all rows of sorts, the key of each slot, full or not, by its own H2, by others, and by such as none has; and a key that no slot has.
func TestFind(t *testing.T) {
	for n, g := range groups() {
		r := slotsOf(g)
		for _, s := range r {
			holdFind(t, g, s.key, s.b)
			holdFind(t, g, s.key, 5)
			holdFind(t, g, s.key, fewH2s[n%8])
		}
		holdFind(t, g, 1000, 5)
	}
}

// P10.2: each H2 there is, and each number beyond.
func TestFindOfEachByte(t *testing.T) {
	for _, g := range few() {
		r := slotsOf(g)
		for h2 := range 256 {
			for _, lane := range []int{0, 3, 7} {
				holdFind(t, g, r[lane].key, byte(h2))
			}
			holdFind(t, g, 1000, byte(h2))
		}
	}
}

// P10.2: full slots are all the slots of one H2: each key is found behind those ahead of it; in none of them, though each has some of its bits, it is not.
func TestFindAmongMany(t *testing.T) {
	for _, h2 := range []byte{0, 5, 127} {
		var g api.Group
		for lane := range 8 {
			g.Ctrl |= uint64(h2) << (8 * lane)
			g.Keys[lane] = 1<<60 | uint64(8-lane)
		}
		for lane := range 8 {
			if at, looked, e := group.Find(g, g.Keys[lane], h2); at != lane || looked != lane+1 || e != api.OK {
				t.Errorf("Find, in lane %d: %d, %d, %d", lane, at, looked, e)
			}
			for _, key := range []uint64{g.Keys[lane] &^ (1 << 60), g.Keys[lane] | 1<<63, g.Keys[lane] | 16} {
				if at, looked, e := group.Find(g, key, h2); at != 0 || looked != 0 || e != api.ErrNone {
					t.Errorf("Find(%#x): %d, %d, %d", key, at, looked, e)
				}
			}
			if at, looked, e := group.Find(g, g.Keys[lane], h2^1); at != 0 || looked != 0 || e != api.ErrNone {
				t.Errorf("Find, in lane %d, by another H2: %d, %d, %d", lane, at, looked, e)
			}
		}
	}
}

// P10.2: in numbers.
func TestFindInNumbers(t *testing.T) {
	g := api.Group{Ctrl: 0x05fe057f80050905, Keys: [8]uint64{1, 2, 3, 4, 5, 6, 3, 8}}
	for _, c := range []struct {
		key          uint64
		h2           byte
		lane, looked int
		e            api.Errno
	}{
		{1, 5, 0, 1, api.OK},
		{3, 5, 2, 2, api.OK}, // and in a slot that is deleted
		{6, 5, 5, 3, api.OK},
		{8, 5, 7, 4, api.OK},
		{2, 9, 1, 1, api.OK},
		{5, 127, 4, 1, api.OK},
		{2, 5, 0, 0, api.ErrNone}, // it has another H2
		{1, 9, 0, 0, api.ErrNone},
		{1, 0, 0, 0, api.ErrNone},
		{4, 0, 0, 0, api.ErrNone}, // in a slot that is empty
		{4, 5, 0, 0, api.ErrNone},
		{4, 128, 0, 0, api.ErrArg},
		{3, 254, 0, 0, api.ErrArg},
		{1, 133, 0, 0, api.ErrArg},
		{1, 255, 0, 0, api.ErrArg},
		{99, 5, 0, 0, api.ErrNone},
		{99, 128, 0, 0, api.ErrArg},
	} {
		if lane, looked, e := group.Find(g, c.key, c.h2); lane != c.lane || looked != c.looked || e != c.e {
			t.Errorf("Find(%d, %d): %d, %d, %d, not %d, %d, %d", c.key, c.h2, lane, looked, e, c.lane, c.looked, c.e)
		}
	}
	for h2, want := range map[byte][]int{5: {0, 2, 5, 7}, 9: {1}, 127: {4}, 0: nil, 126: nil} {
		if l, e := group.Looks(g, h2); !slices.Equal(l, want) || e != api.OK {
			t.Errorf("Looks(%d): %v, %d, not %v", h2, l, e, want)
		}
	}
	for _, h2 := range noH2s {
		if l, e := group.Looks(g, h2); len(l) != 0 || e != api.ErrArg {
			t.Errorf("Looks(%d): %v, %d, not ErrArg", h2, l, e)
		}
	}
}

// P10.2, R2: ErrGroup goes ahead of all else, and stands alone, whether what comes with it is right, or wrong.
func TestLooksAndFindOfNoGroup(t *testing.T) {
	for _, g := range noGroups() {
		for _, h2 := range append([]byte{0, 5, 6, 127}, noH2s...) {
			if l, e := group.Looks(g, h2); len(l) != 0 || e != api.ErrGroup {
				t.Fatalf("Looks(%v, %d): %v, %d", g, h2, l, e)
			}
			for _, key := range append(g.Keys[:], 1000) {
				if lane, looked, e := group.Find(g, key, h2); lane != 0 || looked != 0 || e != api.ErrGroup {
					t.Fatalf("Find(%v, %d, %d): %d, %d, %d", g, key, h2, lane, looked, e)
				}
			}
		}
	}
}

// P10.2, R3, R5: which lanes is told anew each time, whatever was done with what was told ahead of it.
func TestToldLanesAreNew(t *testing.T) {
	g := api.Group{Ctrl: 0x05fe057f80050905, Keys: [8]uint64{1, 2, 3, 4, 5, 6, 3, 8}}
	want := []int{0, 2, 5, 7}
	var told [][]int
	for range 3 {
		l, e := group.Looks(g, 5)
		if !slices.Equal(l, want) || e != api.OK {
			t.Fatalf("Looks: %v, %d", l, e)
		}
		told = append(told, l)
	}
	clear(told[0])
	told[1] = append(told[1], -8)
	told[1][0] = -9
	if l, _ := group.Looks(g, 5); !slices.Equal(told[2], want) || !slices.Equal(l, want) {
		t.Errorf("Looks: %v, then %v", told[2], l)
	}
}
