package hash

import (
	"math"
	"math/big"
	"testing"

	"honeycomb/api"
)

// P7.1: hashes that were reckoned elsewhere.
func TestOfInNumbers(t *testing.T) {
	for _, c := range []struct{ seed, key, want uint64 }{
		{0x0, 0x0, 0x0000000000000000},
		{0x0, 0x1, 0x9364959520a92011},
		{0x0, 0x2, 0x13981938ebdbd0fb},
		{0x1, 0x0, 0x9364959520a92011},
		{0x5, 0x5, 0x0000000000000000},
		{0x5, 0x6, 0x35922aeb41da4b73},
		{0x5, 0x7, 0x13981938ebdbd0fb},
		{0x5, 0x0, 0xb9b7579a054ea76a},
		{0x0, 0xffffffffffffffff, 0x89ba3147836f1499},
		{0xffffffffffffffff, 0x0, 0x89ba3147836f1499},
		{0xffffffffffffffff, 0xffffffffffffffff, 0x0000000000000000},
		{0xffffffffffffffff, 0x1, 0xa844ac47f28b2cec},
		{0x1, 0xffffffffffffffff, 0xa844ac47f28b2cec},
		{0x0, 0x8000000000000000, 0x099888f5ccc447ac},
		{0x8000000000000000, 0x1, 0x89cc0c9875ede87d},
		{0x123456789abcdef, 0xfedcba9876543210, 0x89ba3147836f1499},
		{0x2a, 0x100000000, 0x628623e81b49078f},
		{0x2a, 0xffffffff, 0xbe34cf4a7d94b3a4},
	} {
		if got := Of(c.seed, c.key); got != c.want {
			t.Errorf("Of(%#x, %#x): %#x, not %#x", c.seed, c.key, got, c.want)
		}
		if got := Key(c.seed, c.want); got != c.key {
			t.Errorf("Key(%#x, %#x): %#x, not %#x", c.seed, c.want, got, c.key)
		}
	}
}

// P7.1: keys that were sought elsewhere.
func TestKeyInNumbers(t *testing.T) {
	for _, c := range []struct{ seed, hash, want uint64 }{
		{0x0, 0x0, 0x0000000000000000},
		{0x0, 0x1, 0xaa2fd3f6f620f879},
		{0x5, 0x0, 0x0000000000000005},
		{0x5, 0x1, 0xaa2fd3f6f620f87c},
		{0x0, 0xffffffffffffffff, 0xf1f08d1438e2acb4},
		{0xffffffffffffffff, 0x0, 0xffffffffffffffff},
		{0xffffffffffffffff, 0xffffffffffffffff, 0x0e0f72ebc71d534b},
		{0x5, 0x8000000000000000, 0x33c0200858e77433},
		{0x7, 0x7f, 0x760f2d077eec19e4},
		{0x7, 0x80, 0x007693bbeeb084b6},
	} {
		if got := Key(c.seed, c.hash); got != c.want {
			t.Errorf("Key(%#x, %#x): %#x, not %#x", c.seed, c.hash, got, c.want)
		}
	}
}

// P7.1: the hash is what the document's words come to, bit by bit.
func TestOf(t *testing.T) {
	for _, seed := range edges() {
		for _, key := range edges() {
			if got, want := Of(seed, key), ofBy(seed, key); got != want {
				t.Fatalf("Of(%#x, %#x): %#x, not %#x", seed, key, got, want)
			}
		}
	}
}

// P7.1: a seed turns the bits of a key: so the seed itself has the hash 0, and both may change places.
func TestOfTheSeed(t *testing.T) {
	for _, seed := range edges() {
		if got := Of(seed, seed); got != 0 {
			t.Errorf("Of(%#x) by itself: %#x", seed, got)
		}
		if got := Key(seed, 0); got != seed {
			t.Errorf("Key(%#x, 0): %#x", seed, got)
		}
		for _, key := range edges() {
			if Of(seed, key) != Of(key, seed) || Of(seed, key) != Of(0, seed^key) {
				t.Errorf("Of(%#x, %#x) is not that of both bits turned", seed, key)
			}
			if key != seed && Of(seed, key) == 0 {
				t.Errorf("Of(%#x, %#x): 0", seed, key)
			}
		}
	}
}

// P7.1, P7.5: Of and Key are each other's way back.
func TestThereAndBack(t *testing.T) {
	hold := func(seed, w uint64) {
		if got := Key(seed, Of(seed, w)); got != w {
			t.Fatalf("Key of Of(%#x, %#x): %#x", seed, w, got)
		}
		if got := Of(seed, Key(seed, w)); got != w {
			t.Fatalf("Of of Key(%#x, %#x): %#x", seed, w, got)
		}
	}
	c := chance(3)
	for _, seed := range edges() {
		for _, w := range edges() {
			hold(seed, w)
		}
		for place := range 64 {
			hold(seed, 1<<place)
			hold(seed, math.MaxUint64>>place)
			hold(seed, math.MaxUint64<<place)
		}
		for w := range uint64(300) {
			hold(seed, w)
			hold(seed, -w)
			hold(seed, w<<56)
		}
	}
	for range 100000 {
		hold(c.word(), c.word())
	}
}

// P7.1: no two keys have the same hash by one seed.
func TestNoTwoAlike(t *testing.T) {
	for _, seed := range []uint64{0, 5, top, math.MaxUint64} {
		met := map[uint64]uint64{}
		for key := range uint64(50000) {
			for _, key := range []uint64{key, ^key, 1<<20 + key<<32} {
				h := Of(seed, key)
				if other, ok := met[h]; ok {
					t.Fatalf("by %#x %#x and %#x have the hash %#x", seed, key, other, h)
				}
				met[h] = key
			}
		}
	}
}

// P7.2: the edges, in numbers.
func TestH1AndH2InNumbers(t *testing.T) {
	for _, c := range []struct {
		hash, h1 uint64
		h2       byte
	}{
		{0, 0, 0},
		{1, 0, 1},
		{126, 0, 126},
		{127, 0, 127},
		{128, 1, 0},
		{129, 1, 1},
		{255, 1, 127},
		{256, 2, 0},
		{top - 1, 72057594037927935, 127},
		{top, 72057594037927936, 0},
		{math.MaxUint64 - 127, 144115188075855871, 0},
		{math.MaxUint64, 144115188075855871, 127},
	} {
		if got := H1(c.hash); got != c.h1 {
			t.Errorf("H1(%d): %d, not %d", c.hash, got, c.h1)
		}
		if got := H2(c.hash); got != c.h2 {
			t.Errorf("H2(%d): %d, not %d", c.hash, got, c.h2)
		}
	}
}

// P7.2, P7.5: H2 are the seven last bits, H1 those ahead; together they are the hash.
func TestH1AndH2(t *testing.T) {
	for _, h := range append(edges(), powers()...) {
		if got, want := H1(h), number(text(h)[:57]); got != want {
			t.Errorf("H1(%#x): %#x, not %#x", h, got, want)
		}
		if got, want := uint64(H2(h)), number(text(h)[57:]); got != want {
			t.Errorf("H2(%#x): %#x, not %#x", h, got, want)
		}
		if H1(h)*128+uint64(H2(h)) != h {
			t.Errorf("H1 and H2 of %#x together: %#x, %#x", h, H1(h), H2(h))
		}
	}
}

// P7.2: the edges, in numbers.
func TestPrefixInNumbers(t *testing.T) {
	for _, c := range []struct {
		hash uint64
		bits int
		want uint64
		e    api.Errno
	}{
		{math.MaxUint64, -1, 0, api.ErrArg},
		{math.MaxUint64, 0, 0, api.OK},
		{math.MaxUint64, 1, 1, api.OK},
		{math.MaxUint64, 2, 3, api.OK},
		{math.MaxUint64, 63, top - 1, api.OK},
		{math.MaxUint64, 64, math.MaxUint64, api.OK},
		{math.MaxUint64, 65, 0, api.ErrArg},
		{0, -1, 0, api.ErrArg},
		{0, 0, 0, api.OK},
		{0, 64, 0, api.OK},
		{0, 65, 0, api.ErrArg},
		{top, 1, 1, api.OK},
		{top, 2, 2, api.OK},
		{top, 63, 1 << 62, api.OK},
		{top - 1, 1, 0, api.OK},
		{top - 1, 2, 1, api.OK},
		{1, 63, 0, api.OK},
		{1, 64, 1, api.OK},
		{1, 65, 0, api.ErrArg},
		{2, 63, 1, api.OK},
	} {
		if got, e := Prefix(c.hash, c.bits); got != c.want || e != c.e {
			t.Errorf("Prefix(%#x, %d): %#x, %d, not %#x, %d", c.hash, c.bits, got, e, c.want, c.e)
		}
	}
}

// P7.2, P7.5: a prefix is the beginning of the hash's bits, and of each longer prefix.
func TestPrefix(t *testing.T) {
	for _, h := range append(edges(), powers()...) {
		for bits := range 65 {
			got, e := Prefix(h, bits)
			if want := number(text(h)[:bits]); got != want || e != api.OK {
				t.Fatalf("Prefix(%#x, %d): %#x, %d, not %#x", h, bits, got, e, want)
			}
			for more := bits; more <= 64; more++ {
				longer, _ := Prefix(h, more)
				whole := new(big.Int).Rsh(new(big.Int).SetUint64(longer), uint(more-bits))
				if whole.Uint64() != got {
					t.Fatalf("Prefix(%#x, %d): %#x does not begin with that of %d bits", h, more, longer, bits)
				}
			}
		}
	}
}

// P7.2: of no other number of bits there is a prefix.
func TestPrefixOfNoBits(t *testing.T) {
	for _, h := range edges() {
		for _, bits := range noBitsAtAll() {
			if got, e := Prefix(h, bits); got != 0 || e != api.ErrArg {
				t.Errorf("Prefix(%#x, %d): %#x, %d, not ErrArg", h, bits, got, e)
			}
		}
	}
}

// P7.3: the edges, in numbers.
func TestPartsInNumbers(t *testing.T) {
	for _, c := range []struct {
		a, b uint64
		want int
	}{
		{0, 0, 64},
		{9, 9, 64},
		{math.MaxUint64, math.MaxUint64, 64},
		{0, top, 0},
		{0, math.MaxUint64, 0},
		{top, top - 1, 0},
		{top, top | top>>1, 1},
		{0, top - 1, 1},
		{0, 1 << 62, 1},
		{0, 1 << 61, 2},
		{5, 6, 62},
		{0, 2, 62},
		{0, 1, 63},
		{6, 7, 63},
		{top, top + 1, 63},
		{math.MaxUint64, math.MaxUint64 - 1, 63},
		{0, 1 << 32, 31},
		{0, 1<<32 - 1, 32},
	} {
		if got := Parts(c.a, c.b); got != c.want {
			t.Errorf("Parts(%#x, %#x): %d, not %d", c.a, c.b, got, c.want)
		}
		if got := Parts(c.b, c.a); got != c.want {
			t.Errorf("Parts(%#x, %#x): %d, not %d", c.b, c.a, got, c.want)
		}
	}
}

// P7.3: two hashes part where their prefixes do.
func TestParts(t *testing.T) {
	all := append(edges(), powers()...)
	for _, a := range all {
		for _, b := range all {
			n := Parts(a, b)
			if want := partsBy(a, b); n != want {
				t.Fatalf("Parts(%#x, %#x): %d, not %d", a, b, n, want)
			}
			p, _ := Prefix(a, n)
			q, _ := Prefix(b, n)
			if p != q {
				t.Fatalf("Parts(%#x, %#x): %d, where they have parted", a, b, n)
			}
			if n < 64 {
				p, _ = Prefix(a, n+1)
				q, _ = Prefix(b, n+1)
				if p == q {
					t.Fatalf("Parts(%#x, %#x): %d, and not yet there", a, b, n)
				}
			}
		}
	}
}

// P7.1 to P7.4: the chapter's examples.
func TestExamples(t *testing.T) {
	if Of(5, 5) != 0 || Key(5, 0) != 5 {
		t.Errorf("Of(5, 5), Key(5, 0): %d, %d", Of(5, 5), Key(5, 0))
	}
	if H1(256) != 2 || H2(255) != 127 {
		t.Errorf("H1(256), H2(255): %d, %d", H1(256), H2(255))
	}
	if p, e := Prefix(1<<63, 1); p != 1 || e != api.OK {
		t.Errorf("Prefix(2^63, 1): %d, %d", p, e)
	}
	if p, e := Prefix(1, 64); p != 1 || e != api.OK {
		t.Errorf("Prefix(1, 64): %d, %d", p, e)
	}
	if p, e := Prefix(1, 65); p != 0 || e != api.ErrArg {
		t.Errorf("Prefix(1, 65): %d, %d", p, e)
	}
	if Parts(0, 1<<63) != 0 || Parts(6, 7) != 63 || Parts(9, 9) != 64 {
		t.Errorf("Parts: %d, %d, %d", Parts(0, 1<<63), Parts(6, 7), Parts(9, 9))
	}
	if c, e := Crowd(1, 0, 3, 4, 3); len(c) != 1 || c[0] != 2 || e != api.OK {
		t.Errorf("Crowd(1, 0; 3 4 3): %v, %d", c, e)
	}
	if n, e := Deepest(1, 2, 3, 4, 3); n != 0 || e != api.OK {
		t.Errorf("Deepest(1, 2; 3 4 3): %d, %d", n, e)
	}
	if n, e := Deepest(1, 0); n != 0 || e != api.ErrArg {
		t.Errorf("Deepest(1, 0): %d, %d", n, e)
	}
}
