package hash

import (
	"maps"
	"math"
	"slices"
	"testing"

	"honeycomb/api"
)

var seeds = []uint64{0, 1, 5, top, math.MaxUint64}

// P7.4: what is counted, in numbers: the hashes of 3 and 4 by 1 begin with 0001 and 1011.
func TestCrowdInNumbers(t *testing.T) {
	for _, c := range []struct {
		bits int
		keys []uint64
		want map[uint64]int
	}{
		{0, nil, nil},
		{64, nil, nil},
		{0, []uint64{1}, map[uint64]int{0: 1}},
		{64, []uint64{1}, map[uint64]int{0: 1}},
		{0, []uint64{3, 4, 3}, map[uint64]int{0: 2}},
		{1, []uint64{3, 4, 3}, map[uint64]int{0: 1, 1: 1}},
		{4, []uint64{3, 4, 3}, map[uint64]int{1: 1, 11: 1}},
		{63, []uint64{3, 4, 3}, map[uint64]int{0x13981938ebdbd0fb >> 1: 1, 0xb9b7579a054ea76a >> 1: 1}},
		{64, []uint64{3, 4, 3}, map[uint64]int{0x13981938ebdbd0fb: 1, 0xb9b7579a054ea76a: 1}},
		{64, []uint64{4, 4, 4, 4}, map[uint64]int{0xb9b7579a054ea76a: 1}},
	} {
		if got, e := Crowd(1, c.bits, c.keys...); !maps.Equal(got, c.want) || e != api.OK {
			t.Errorf("Crowd(1, %d; %v): %v, %d, not %v", c.bits, c.keys, got, e, c.want)
		}
	}
}

// P7.4, P7.5: of keys of all sorts, with each number of bits; together it counts each key once.
func TestCrowd(t *testing.T) {
	for _, seed := range seeds {
		for name, keys := range crowds(seed) {
			for bits := range 65 {
				got, e := Crowd(seed, bits, keys...)
				if want := crowdBy(seed, bits, keys); !maps.Equal(got, want) || e != api.OK {
					t.Fatalf("Crowd(%#x, %d; %s): %v, %d, not %v", seed, bits, name, got, e, want)
				}
				many := 0
				for prefix, has := range got {
					if has < 1 || bits < 64 && prefix>>bits != 0 {
						t.Fatalf("Crowd(%#x, %d; %s): %d of %#x", seed, bits, name, has, prefix)
					}
					many += has
				}
				if many != len(distinct(keys)) {
					t.Fatalf("Crowd(%#x, %d; %s): %d together, of %d keys", seed, bits, name, many, len(distinct(keys)))
				}
			}
		}
	}
}

// distinct are these keys, each once.
func distinct(keys []uint64) []uint64 {
	return slices.Compact(slices.Sorted(slices.Values(keys)))
}

// P7.4: with no other number of bits, whatever the keys are.
func TestCrowdOfNoBits(t *testing.T) {
	for name, keys := range crowds(5) {
		for _, bits := range noBitsAtAll() {
			if got, e := Crowd(5, bits, keys...); got != nil || e != api.ErrArg {
				t.Errorf("Crowd(5, %d; %s): %v, %d, not ErrArg", bits, name, got, e)
			}
		}
	}
}

// P7.4: no keys have no prefix, and are no error; what is told of them may be written to.
func TestCrowdOfNoKeys(t *testing.T) {
	for bits := range 65 {
		got, e := Crowd(9, bits)
		if len(got) != 0 || e != api.OK {
			t.Fatalf("Crowd(9, %d): %v, %d", bits, got, e)
		}
		got[1]++
	}
}

// P7.4: how deep, in numbers, of keys that have these hashes.
func TestDeepestInNumbers(t *testing.T) {
	for _, c := range []struct {
		many   int
		hashes []uint64
		want   int
	}{
		{1, nil, 0},
		{1, []uint64{9}, 0},
		{1, []uint64{9, 9, 9}, 0},
		{2, []uint64{9}, 0},
		{1, []uint64{0, top}, 1},
		{2, []uint64{0, top}, 0},
		{3, []uint64{0, top}, 0},
		{1, []uint64{0, 1 << 62}, 2},
		{1, []uint64{0, 1, 0}, 64},
		{1, []uint64{6, 7}, 64},
		{2, []uint64{6, 7}, 0},
		{1, []uint64{5, 6}, 63},
		{1, []uint64{0, 2}, 63},
		{1, []uint64{0, 1, top}, 64},
		{2, []uint64{0, 1, top}, 1},
		{3, []uint64{0, 1, top}, 0},
		{4, []uint64{0, 1, top}, 0},
		{1, []uint64{0, 1, 2, 3}, 64},
		{2, []uint64{0, 1, 2, 3}, 63},
		{3, []uint64{0, 1, 2, 3}, 63},
		{4, []uint64{0, 1, 2, 3}, 0},
		{2, []uint64{1, 2, 3}, 63},
		{1, []uint64{math.MaxUint64, math.MaxUint64 - 1}, 64},
		{math.MaxInt, []uint64{0, 1, 2, 3}, 0},
	} {
		if got, e := Deepest(77, c.many, keysOf(77, c.hashes...)...); got != c.want || e != api.OK {
			t.Errorf("Deepest(%d) of hashes %v: %d, %d, not %d", c.many, c.hashes, got, e, c.want)
		}
	}
}

// holdDeepest holds Deepest against what is tried bit by bit, and against Crowd: with so many bits none counts more, with one less some does.
func holdDeepest(t *testing.T, seed uint64, many int, keys []uint64) {
	t.Helper()
	got, e := Deepest(seed, many, keys...)
	if want := deepestBy(seed, many, keys); got != want || e != api.OK {
		t.Fatalf("Deepest(%#x, %d; %v): %d, %d, not %d", seed, many, keys, got, e, want)
	}
	if crowd, e := Crowd(seed, got, keys...); mostOf(crowd) > many || e != api.OK {
		t.Fatalf("Deepest(%#x, %d; %v): %d, with which Crowd is %v, %d", seed, many, keys, got, crowd, e)
	}
	if got > 0 {
		if crowd, _ := Crowd(seed, got-1, keys...); mostOf(crowd) <= many {
			t.Fatalf("Deepest(%#x, %d; %v): %d, one less would do", seed, many, keys, got)
		}
	}
}

// P7.4, P7.5: of keys of all sorts, from 1 up to more than there are.
func TestDeepest(t *testing.T) {
	for _, seed := range seeds {
		for _, keys := range crowds(seed) {
			all := len(distinct(keys))
			for _, many := range []int{1, 2, 3, 7, 8, all - 1, all, all + 1, len(keys), math.MaxInt} {
				if many >= 1 {
					holdDeepest(t, seed, many, keys)
				}
			}
		}
	}
}

// P7.4, P7.5: of all sets of some hashes that part at all sorts of bits, from 1 up to more than there are.
func TestDeepestOfSets(t *testing.T) {
	const seed = 99
	hashes := []uint64{0, 1, 2, 1 << 40, top, top + 1, math.MaxUint64}
	for set := range 1 << len(hashes) {
		var keys []uint64
		for n, h := range hashes {
			if set>>n&1 == 1 {
				keys = append(keys, Key(seed, h))
			}
		}
		for many := 1; many <= len(keys)+1; many++ {
			holdDeepest(t, seed, many, keys)
		}
	}
}

// P7.4, P7.5: two keys part just where their hashes do, at each number of bits; alone, or beside others.
func TestDeepestOfTwo(t *testing.T) {
	const seed = 31
	c := chance(5)
	for place := range 64 {
		a := c.word()
		two := []uint64{Key(seed, a), Key(seed, a^1<<place)}
		if got, e := Deepest(seed, 1, two...); got != 1+Parts(Of(seed, two[0]), Of(seed, two[1])) || got != 64-place || e != api.OK {
			t.Errorf("Deepest of two that part at %d: %d, %d", 63-place, got, e)
		}
		if got, e := Deepest(seed, 2, two...); got != 0 || e != api.OK {
			t.Errorf("Deepest of two, of which there may be two: %d, %d", got, e)
		}
		holdDeepest(t, seed, 1, append(two, Key(seed, ^a), c.word()))
		holdDeepest(t, seed, 2, append(two, Key(seed, ^a), c.word()))
	}
}

// P7.4: many of 0, and of less, is told ahead of all, whatever the keys are.
func TestDeepestOfTooFew(t *testing.T) {
	for name, keys := range crowds(5) {
		for _, many := range []int{0, -1, -2, -64, -1 << 32, math.MinInt + 1, math.MinInt} {
			if got, e := Deepest(5, many, keys...); got != 0 || e != api.ErrArg {
				t.Errorf("Deepest(5, %d; %s): %d, %d, not ErrArg", many, name, got, e)
			}
		}
	}
}

// P7.4, R5: in whatever order keys come, and how often, the same is told.
func TestOrderOfKeys(t *testing.T) {
	c := chance(13)
	for name, keys := range crowds(5) {
		crowd, _ := Crowd(5, 9, keys...)
		deep, _ := Deepest(5, 2, keys...)
		for range 20 {
			mixed := slices.Clone(keys)
			for at := range mixed {
				to := c.below(at + 1)
				mixed[at], mixed[to] = mixed[to], mixed[at]
			}
			if len(mixed) > 0 {
				mixed = append(mixed, mixed[c.below(len(mixed))])
			}
			if got, e := Crowd(5, 9, mixed...); !maps.Equal(got, crowd) || e != api.OK {
				t.Fatalf("Crowd of %s, mixed: %v, %d, not %v", name, got, e, crowd)
			}
			if got, e := Deepest(5, 2, mixed...); got != deep || e != api.OK {
				t.Fatalf("Deepest of %s, mixed: %d, %d, not %d", name, got, e, deep)
			}
		}
	}
}

// R3: what is handed in stays as it is, the room behind its end, too.
func TestKeysStay(t *testing.T) {
	keys := []uint64{9, 3, math.MaxUint64, 3, 0, 7, 7, 1}
	row := slices.Clone(keys)
	for many := range len(row) + 1 {
		for _, n := range []int{-1, 0, 1, 9, 64, 65} {
			Crowd(5, n, row[:many]...)
			Deepest(5, n, row[:many]...)
		}
	}
	if !slices.Equal(row, keys) {
		t.Errorf("keys are %v, not %v", row, keys)
	}
}

// R3: what stands behind the end of a row of keys is not looked at.
func TestRoomBehindKeys(t *testing.T) {
	row := keysOf(5, 8, 9, 10, top)
	if got, e := Crowd(5, 64, row[:2]...); !maps.Equal(got, map[uint64]int{8: 1, 9: 1}) || e != api.OK {
		t.Errorf("Crowd of the first two: %v, %d", got, e)
	}
	if got, e := Deepest(5, 2, row[:2]...); got != 0 || e != api.OK {
		t.Errorf("Deepest of the first two: %d, %d", got, e)
	}
}

// R3, R5: what is told is new each time, whatever was done with what was told ahead of it, or with the keys behind it.
func TestToldCrowdsAreNew(t *testing.T) {
	want := map[uint64]int{0: 1, 1: 1}
	var told []map[uint64]int
	for range 3 {
		keys := []uint64{3, 4, 3}
		got, e := Crowd(1, 1, keys...)
		if !maps.Equal(got, want) || e != api.OK {
			t.Fatalf("Crowd: %v, %d", got, e)
		}
		clear(keys)
		told = append(told, got)
	}
	clear(told[0])
	told[1][0], told[1][5] = 9, 9
	if !maps.Equal(told[2], want) {
		t.Errorf("Crowd, told ahead: %v", told[2])
	}
	if got, _ := Crowd(1, 1, 3, 4, 3); !maps.Equal(got, want) {
		t.Errorf("Crowd, told anew: %v", got)
	}
}

// R1: very many keys end, too: all that begin alike as far as so many can, and some that come several times.
func TestVeryMany(t *testing.T) {
	const seed, bits = 21, 17
	var keys []uint64
	for h := range uint64(1 << bits) {
		keys = append(keys, Key(seed, h))
	}
	keys = append(keys, keys[:1<<10]...)
	for _, c := range []struct{ many, want int }{{1, 64}, {2, 63}, {3, 63}, {4, 62}, {1<<bits - 1, 64 - bits + 1}, {1 << bits, 0}, {1<<bits + 1, 0}} {
		if got, e := Deepest(seed, c.many, keys...); got != c.want || e != api.OK {
			t.Errorf("Deepest of %d: %d, %d, not %d", c.many, got, e, c.want)
		}
	}
	crowd, e := Crowd(seed, 60, keys...)
	if len(crowd) != 1<<(bits-4) || e != api.OK {
		t.Fatalf("Crowd: %d, %d", len(crowd), e)
	}
	for prefix, has := range crowd {
		if has != 16 {
			t.Fatalf("Crowd: %d of %#x", has, prefix)
		}
	}
}
