package table_test

import (
	"math"
	"testing"

	"honeycomb/api"
	"honeycomb/hash"
	"honeycomb/table"
)

// P17.1: of each Depth, each Prefix, and those beyond.
func TestNew(t *testing.T) {
	for depth := range mostDepth + 1 {
		all := uint64(1) << depth
		for prefix := range all {
			want := api.Table{Depth: depth, Prefix: prefix, Can: 14, Ctrl: [2]uint64{0x8080808080808080, 0x8080808080808080}}
			got, e := table.New(depth, prefix)
			if got != want || e != api.OK {
				t.Fatalf("New(%d, %d): %v, %d", depth, prefix, got, e)
			}
			for _, seed := range seeds {
				if e := table.Check(seed, got); e != api.OK {
					t.Fatalf("Check(New(%d, %d)): %d", depth, prefix, e)
				}
				if l := table.Pairs(seed, got); len(l) != 0 {
					t.Fatalf("Pairs(New(%d, %d)): %v", depth, prefix, l)
				}
			}
		}
		for _, prefix := range []uint64{all, all + 1, 2 * all, 1 << 31, 1 << 32, 1 << 56, 1 << 63, math.MaxUint64} {
			if got, e := table.New(depth, prefix); got != (api.Table{}) || e != api.ErrArg {
				t.Fatalf("New(%d, %d): %v, %d", depth, prefix, got, e)
			}
		}
	}
}

// P17.1: numbers that are no Depth, whatever the Prefix.
func TestNewOfNoDepth(t *testing.T) {
	for _, depth := range []int{-1, -2, mostDepth + 1, mostDepth + 2, 8, 16, 31, 32, 63, 64, 65, 255, 256, 257, 1 << 32, 1<<32 + 1, -1 << 32, math.MinInt, math.MinInt + 1, math.MaxInt - 1, math.MaxInt} {
		for _, prefix := range []uint64{0, 1, 31, 32, 63, math.MaxUint64} {
			if got, e := table.New(depth, prefix); got != (api.Table{}) || e != api.ErrArg {
				t.Fatalf("New(%d, %d): %v, %d", depth, prefix, got, e)
			}
		}
	}
}

// P17.1: tables that may be, whatever their Count.
func TestCheck(t *testing.T) {
	for n, s := range many() {
		if e := table.Check(s.seed, s.t); e != api.OK {
			t.Fatalf("Check(%d, %v): %d, not OK", s.seed, s.t, e)
		}
		s.t.Count = []uint64{0, 1, 2, math.MaxUint64}[n%4]
		if e := table.Check(s.seed, s.t); e != api.OK {
			t.Fatalf("Check(%d, %v): %d, not OK", s.seed, s.t, e)
		}
	}
}

// P17.1: tables that are wrong by one thing.
func TestCheckOfNone(t *testing.T) {
	for why, l := range none() {
		for _, s := range l {
			if e := table.Check(s.seed, s.t); e != 270 {
				t.Fatalf("Check(%d, %v): %d, in spite of %s", s.seed, s.t, e, why)
			}
		}
	}
}

// P17.1: each byte there is, in each slot, the numbers being right, and as they were.
func TestCheckOfEachByte(t *testing.T) {
	met := map[api.Errno]int{}
	for _, s := range some()[:60] {
		for n := range 16 {
			for b := range 256 {
				changed := bookOf(s.seed, s.t)
				changed.slots[n].b = byte(b)
				for _, one := range []book{changed, changed.counted()} {
					want := api.Errno(270)
					if one.mayBy() {
						want = api.OK
					}
					if e := table.Check(s.seed, one.table()); e != want {
						t.Fatalf("Check(%d, %v): %d, not %d", s.seed, one.table(), e, want)
					}
					met[want]++
				}
			}
		}
	}
	if met[api.OK] < 1000 || met[270] < 1000 {
		t.Errorf("met: %v", met)
	}
}

// P17.1: each key that a table has, with one bit of its hash turned: what H2, group and prefix hang on may not be, all others may.
func TestCheckOfEachBit(t *testing.T) {
	met := map[api.Errno]int{}
	for at, s := range some() {
		if at%4 > 0 {
			continue
		}
		for n := range 16 {
			for bit := range 64 {
				b := bookOf(s.seed, s.t)
				b.slots[n].key = hash.Key(s.seed, hashBy(s.seed, b.slots[n].key)^1<<bit)
				want := api.Errno(270)
				if b.mayBy() {
					want = api.OK
				}
				if e := table.Check(s.seed, b.table()); e != want {
					t.Fatalf("Check(%d, %v), the slot %d: %d, not %d", s.seed, b.table(), n, e, want)
				}
				met[want]++
			}
		}
	}
	if met[api.OK] < 10000 || met[270] < 1000 {
		t.Errorf("met: %v", met)
	}
}

// P17.1, R5: by another seed keys have other hashes, so that a table with keys is none; without keys it is one by each seed.
func TestCheckByOtherSeeds(t *testing.T) {
	for _, s := range some() {
		for _, seed := range append(seeds, s.seed+1, s.seed^1<<63) {
			want := api.Errno(270)
			if bookOf(seed, s.t).mayBy() {
				want = api.OK
			}
			if e := table.Check(seed, s.t); e != want {
				t.Fatalf("Check(%d, %v): %d, not %d", seed, s.t, e, want)
			}
			if s.t.Live == 0 && want != api.OK || s.t.Live > 5 && seed != s.seed && want == api.OK {
				t.Fatalf("%v by %d: %d", s, seed, want)
			}
		}
	}
}

// by is a key whose hash, by the seed 5, is this one.
func by(h uint64) uint64 { return hash.Key(5, h) }

// P17.1: in numbers. The hash 0x103 is of H1 2 and H2 3, so its row begins with the group 0; 0x183 of H1 3, so its begins with the group 1.
func TestCheckInNumbers(t *testing.T) {
	const none = 0x8080808080808080
	good := api.Table{Can: 12, Live: 2, Ctrl: [2]uint64{0x8080808080800380, 0x0480808080808080}}
	good.Keys[1], good.Keys[15] = by(0x103), by(0x184)
	for _, c := range []struct {
		name   string
		change func(t *api.Table)
		e      api.Errno
	}{
		{"good", func(t *api.Table) {}, api.OK},
		{"other keys of slots that are not full", func(t *api.Table) { t.Keys[0], t.Keys[14] = t.Keys[1], t.Keys[1] }, api.OK},
		{"other values", func(t *api.Table) { t.Values[0], t.Values[1] = 1, math.MaxUint64 }, api.OK},
		{"one more live", func(t *api.Table) { t.Live = 3 }, 270},
		{"one less live", func(t *api.Table) { t.Live = 1 }, 270},
		{"one more can", func(t *api.Table) { t.Can = 13 }, 270},
		{"one less can", func(t *api.Table) { t.Can = 11 }, 270},
		{"another H2", func(t *api.Table) { t.Ctrl[0] = 0x8080808080800480 }, 270},
		{"no control byte", func(t *api.Table) { t.Ctrl[0] = 0x8180808080800380 }, 270},
		{"a deleted slot, uncounted", func(t *api.Table) { t.Ctrl[0] = 0xfe80808080800380 }, 270},
		{"a deleted slot, counted", func(t *api.Table) { t.Ctrl[0], t.Can = 0xfe80808080800380, 11 }, api.OK},
		{"Depth 1, Prefix 0", func(t *api.Table) { t.Depth = 1 }, api.OK},
		{"Depth 1, Prefix 1", func(t *api.Table) { t.Depth, t.Prefix = 1, 1 }, 270},
		{"Depth 5, Prefix 0", func(t *api.Table) { t.Depth = 5 }, api.OK},
		{"Depth 5, Prefix 1", func(t *api.Table) { t.Depth, t.Prefix = 5, 1 }, 270},
		{"Depth 6", func(t *api.Table) { t.Depth = 6 }, 270},
		{"Prefix 1", func(t *api.Table) { t.Prefix = 1 }, 270},
		{"twice in a group", func(t *api.Table) {
			t.Ctrl[0], t.Keys[0], t.Live, t.Can = 0x8080808080800303, t.Keys[1], 3, 11
		}, 270},
		{"the same H2 twice", func(t *api.Table) {
			t.Ctrl[0], t.Keys[0], t.Live, t.Can = 0x8080808080800303, by(0x203), 3, 11
		}, api.OK},
		{"behind a group that stops", func(t *api.Table) { t.Keys[1] = by(0x183) }, 270},
		{"behind one that stops by its last slot", func(t *api.Table) {
			t.Keys[1], t.Ctrl[1], t.Can = by(0x183), 0x04fefefefefefe80, 6
		}, 270},
		{"behind one that does not stop", func(t *api.Table) {
			t.Keys[1], t.Ctrl[1], t.Can = by(0x183), 0x04fefefefefefefe, 5
		}, api.OK},
		{"none", func(t *api.Table) { t.Ctrl, t.Live, t.Can = [2]uint64{none, none}, 0, 14 }, api.OK},
		{"zeros", func(t *api.Table) { *t = api.Table{} }, 270},
		{"ones", func(t *api.Table) { t.Ctrl = [2]uint64{math.MaxUint64, math.MaxUint64} }, 270},
	} {
		one := good
		c.change(&one)
		if e := table.Check(5, one); e != c.e {
			t.Errorf("%s: %d, not %d", c.name, e, c.e)
		}
	}
}
