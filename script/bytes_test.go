package script

import (
	"encoding/binary"
	"math"
	"slices"
	"testing"

	"honeycomb/api"
)

// chance are numbers that come to the same with each run of a test.
type chance uint64

func (c *chance) below(n int) int {
	*c ^= *c << 13
	*c ^= *c >> 7
	*c ^= *c << 17
	return int(uint64(*c) >> 11 % uint64(n))
}

// number is of each length, and often an edge.
func (c *chance) number() uint64 {
	n := uint64(c.below(1<<32))<<32 | uint64(c.below(1<<32))
	return [...]uint64{0, 127, 128, 300, 16383, 16384, 1 << 63, math.MaxUint64, n, n >> c.below(64)}[c.below(10)]
}

func (c *chance) call() api.Call {
	call := api.Call{Op: 1 + c.below(7), Key: c.number()}
	switch many := takes(call.Op); {
	case many == 0:
		call.Key = 0
	case many == 3:
		call.B = c.number()
		fallthrough
	case many == 2:
		call.A = c.number()
	}
	return call
}

// script is one that may be.
func (c *chance) script() api.Script {
	s := blank(1 + c.below(8))
	s.Slabs, s.Seed = 2+c.below(127), c.number()
	for range c.below(65) {
		n := c.below(s.Goers)
		s.Lists[n] = append(s.Lists[n], c.call())
	}
	for range c.below(1 + c.below(40)) {
		s.Picks = append(s.Picks, c.number())
	}
	return s
}

// bytesBy are a script's bytes by another way than the package's, whether it may be or not.
func bytesBy(s api.Script) []byte {
	b := row(uint64(s.Goers), uint64(s.Slabs), s.Seed)
	for _, l := range s.Lists {
		b = append(b, row(uint64(len(l)))...)
		for _, c := range l {
			b = append(b, row(uint64(c.Op))...)
			switch takes(c.Op) {
			case 1:
				b = append(b, row(c.Key)...)
			case 2:
				b = append(b, row(c.Key, c.A)...)
			case 3:
				b = append(b, row(c.Key, c.A, c.B)...)
			}
		}
	}
	b = append(b, row(uint64(len(s.Picks)))...)
	return append(b, row(s.Picks...)...)
}

// row are the bytes of numbers, one behind the other.
func row(numbers ...uint64) []byte {
	var b []byte
	for _, n := range numbers {
		b = binary.AppendUvarint(b, n)
	}
	return b
}

// P3.2
func TestNumber(t *testing.T) {
	for _, c := range []struct {
		n    uint64
		want []byte
	}{
		{0, []byte{0}},
		{1, []byte{1}},
		{127, []byte{127}},
		{128, []byte{128, 1}},
		{129, []byte{129, 1}},
		{255, []byte{255, 1}},
		{256, []byte{128, 2}},
		{300, []byte{172, 2}},
		{16383, []byte{255, 127}},
		{16384, []byte{128, 128, 1}},
		{1 << 63, []byte{128, 128, 128, 128, 128, 128, 128, 128, 128, 1}},
		{1<<63 - 1, []byte{255, 255, 255, 255, 255, 255, 255, 255, 127}},
		{math.MaxUint64, []byte{255, 255, 255, 255, 255, 255, 255, 255, 255, 1}},
	} {
		if got := Number(c.n); !slices.Equal(got, c.want) {
			t.Errorf("Number(%d): %v, not %v", c.n, got, c.want)
		}
	}
	for bit := range 64 {
		for _, n := range []uint64{1 << bit, 1<<bit - 1, 1<<bit + 1, 5 << bit} {
			if got := Number(n); !slices.Equal(got, row(n)) {
				t.Errorf("Number(%d): %v, not %v", n, got, row(n))
			}
		}
	}
}

// P3.2, R3: what one call tells shares nothing with what another one does.
func TestNumberIsNew(t *testing.T) {
	b := Number(300)
	b[0] = 9
	if got := Number(300); !slices.Equal(got, []byte{172, 2}) {
		t.Errorf("Number(300) behind a change of what it told: %v", got)
	}
}

// P3.2
func TestEncode(t *testing.T) {
	if b, e := Encode(example()); !slices.Equal(b, exampleBytes()) || e != api.OK {
		t.Errorf("Encode of the example: %v, %d", b, e)
	}
	for _, c := range edges() {
		if b, e := Encode(c.Script); !slices.Equal(b, bytesBy(c.Script)) || e != api.OK {
			t.Errorf("Encode of %s: %v, %d, not %v", c.name, b, e, bytesBy(c.Script))
		}
	}
	if b, _ := Encode(withCall(api.Call{Op: api.OpSwap, Key: 300, A: 0, B: math.MaxUint64})); !slices.Equal(b, []byte{
		2, 2, 0, 0, 2, 1, 3, 4, 172, 2, 0, 255, 255, 255, 255, 255, 255, 255, 255, 255, 1, 0,
	}) {
		t.Errorf("Encode of a swap: %v", b)
	}
}

// P3.2, R2
func TestEncodeOfWhatMayNotBe(t *testing.T) {
	for _, c := range outside() {
		if b, e := Encode(c.Script); len(b) != 0 || e != api.ErrScript {
			t.Errorf("Encode of %s, %v: %v, %d, not ErrScript", c.name, c.Lists, b, e)
		}
	}
}

// short is the beginning of bytes.
func short(b []byte) []byte { return b[:min(len(b), 60)] }

// decoded holds what Decode tells of bytes against what it has to.
func decoded(t *testing.T, b []byte, want api.Script, many int) {
	t.Helper()
	was := slices.Clone(b)
	if s, n, e := Decode(b); !alike(s, want) || n != many || e != api.OK {
		t.Errorf("Decode(%v ..): %+v, %d, %d, not %+v, %d", short(b), s, n, e, want, many)
	}
	if !slices.Equal(b, was) {
		t.Errorf("Decode changed its bytes: %v .., not %v ..", short(b), short(was))
	}
}

// refused holds that bytes are no script's.
func refused(t *testing.T, why string, b []byte) {
	t.Helper()
	if s, n, e := Decode(b); !alike(s, api.Script{}) || n != 0 || e != api.ErrBytes {
		t.Errorf("Decode of %s, %v ..: %+v, %d, %d, not ErrBytes", why, short(b), s, n, e)
	}
}

// P3.3
func TestDecode(t *testing.T) {
	decoded(t, exampleBytes(), example(), 11)
	decoded(t, append(exampleBytes(), 99), example(), 11)
	for _, c := range edges() {
		b := bytesBy(c.Script)
		decoded(t, b, c.Script, len(b))
		for _, behind := range [][]byte{{0}, {255}, {128, 128}, b, make([]byte, 50)} {
			decoded(t, slices.Concat(b, behind), c.Script, len(b))
		}
	}
}

// P3.3: what is too few, from none at all to all but one.
func TestDecodeOfTooFew(t *testing.T) {
	refused(t, "nil", nil)
	for _, c := range edges() {
		b := bytesBy(c.Script)
		for n := range b {
			if n < 200 || n > len(b)-20 {
				refused(t, "the first of "+c.name, b[:n])
			}
		}
	}
}

// onlyHasElse is whether some call has what its Op does not take: that is not in its bytes, which are those of another call.
func onlyHasElse(s api.Script) bool {
	for _, c := range slices.Concat(s.Lists...) {
		if many := takes(c.Op); many >= 0 && (many < 1 && c.Key > 0 || many < 2 && c.A > 0 || many < 3 && c.B > 0) {
			return true
		}
	}
	return false
}

// P3.3: bytes of what is like a script, but may not be; where the lists are as many as Goers, so that they are read as they stand.
func TestDecodeOfWhatMayNotBe(t *testing.T) {
	for _, c := range outside() {
		if len(c.Lists) == c.Goers && !onlyHasElse(c.Script) {
			refused(t, c.name, append(bytesBy(c.Script), make([]byte, 9000)...))
		}
	}
	none := make([]byte, 40)
	for why, b := range map[string][]byte{
		"Goers 2^32 + 1":       row(1<<32+1, 2, 0, 0, 0),
		"Goers 2^63 + 1":       row(1<<63+1, 2, 0, 0, 0),
		"Goers 2^64 - 1":       row(math.MaxUint64, 2, 0, 0, 0),
		"Slabs 2^32 + 2":       row(1, 1<<32+2, 0, 0, 0),
		"Slabs 2^63 + 2":       row(1, 1<<63+2, 0, 0, 0),
		"calls 2^32":           row(1, 2, 0, 1<<32, 0),
		"calls 2^63":           row(1, 2, 0, 1<<63, 0),
		"calls 2^64 - 1":       row(1, 2, 0, math.MaxUint64, 0),
		"more calls than left": slices.Concat(row(2, 2, 0, 1, 7, 64), row(make([]uint64, 64)...)),
		"an Op 0":              row(1, 2, 0, 1, 0, 0, 0, 0),
		"an Op 8":              row(1, 2, 0, 1, 8, 0, 0, 0),
		"an Op 2^32 + 7":       row(1, 2, 0, 1, 1<<32+7, 0),
		"an Op 2^63 + 7":       row(1, 2, 0, 1, 1<<63+7, 0),
		"an Op 2^64 - 1":       row(1, 2, 0, 1, math.MaxUint64, 0),
		"picks 4097":           append(row(1, 2, 0, 0, 4097), make([]byte, 5000)...),
		"picks 2^32":           row(1, 2, 0, 0, 1<<32),
		"picks 2^63":           row(1, 2, 0, 0, 1<<63),
		"picks 2^64 - 1":       row(1, 2, 0, 0, math.MaxUint64),
		"nothing but 0":        none,
	} {
		refused(t, why, append(b, none...))
	}
}

// P3.3: a number in more bytes than its own, or over 64 bits, wherever one stands.
func TestDecodeOfNoNumbers(t *testing.T) {
	parts := []uint64{1, 2, 5, 2, 4, 7, 300, 9, 7, 2, 0, 1}
	if _, n, e := Decode(row(parts...)); n != 13 || e != api.OK {
		t.Fatalf("Decode: %d, %d", n, e)
	}
	for at, part := range parts {
		head, own, tail := row(parts[:at]...), row(part), row(parts[at+1:]...)
		last := len(own) - 1
		for _, zeros := range [][]byte{{0}, {128, 0}, {128, 128, 128, 128, 128, 128, 128, 128, 0}, append(slices.Repeat([]byte{128}, 40), 0)} {
			long := slices.Concat(own[:last], []byte{own[last] + 128}, zeros)
			refused(t, "more bytes than a number's own", slices.Concat(head, long, tail))
		}
		for _, over := range [][]byte{
			{255, 255, 255, 255, 255, 255, 255, 255, 255, 2},
			{128, 128, 128, 128, 128, 128, 128, 128, 128, 2},
			{128, 128, 128, 128, 128, 128, 128, 128, 128, 127},
			{128, 128, 128, 128, 128, 128, 128, 128, 128, 128, 1},
			{255, 255, 255, 255, 255, 255, 255, 255, 255, 129, 0},
			{255, 255, 255, 255, 255, 255, 255, 255, 255, 255, 127},
			slices.Repeat([]byte{255}, 30),
			slices.Repeat([]byte{128}, 30),
		} {
			refused(t, "over 64 bits", slices.Concat(head, over, tail))
			wrapped := slices.Concat([]byte{own[0] | 128}, over[1:]) // its lowest bits are those of what should stand there
			refused(t, "over 64 bits", slices.Concat(head, wrapped, tail))
		}
	}
}

// P3.3: a seed, key, value and pick may be any number of 64 bits.
func TestDecodeOfGreatNumbers(t *testing.T) {
	for _, n := range []uint64{0, 127, 128, 300, 1<<32 - 1, 1 << 32, 1<<63 - 1, 1 << 63, math.MaxUint64} {
		want := withCall(api.Call{Op: api.OpSwap, Key: n, A: n, B: n})
		want.Seed, want.Picks = n, []uint64{n, 0, n}
		b := row(2, 2, n, 0, 2, 1, 3, 4, n, n, n, 3, n, 0, n)
		decoded(t, b, want, len(b))
	}
}

// P3.3, R3: what is answered shares nothing with the bytes, nor one list with another one.
func TestDecodeIsNew(t *testing.T) {
	b := row(3, 2, 5, 2, 7, 7, 1, 6, 1, 1, 9, 2, 0, 1)
	s, _, e := Decode(b)
	if e != api.OK {
		t.Fatalf("Decode: %d", e)
	}
	was := deep(s)
	clear(b)
	if !alike(s, was) {
		t.Errorf("the script hangs on the bytes: %+v, not %+v", s, was)
	}
	for n := range s.Lists {
		_ = append(s.Lists[n], api.Call{Op: 99})
	}
	_ = append(s.Picks, 99)
	if !alike(s, was) {
		t.Errorf("the lists lie in each other's room: %+v, not %+v", s, was)
	}
}

// P3.5: there and back.
func TestDecodeOfEncode(t *testing.T) {
	c := chance(8)
	for range 2000 {
		s := c.script()
		was := deep(s)
		b, e := Encode(s)
		if e != api.OK || !slices.Equal(b, bytesBy(s)) || !alike(s, was) {
			t.Fatalf("Encode(%+v): %v, %d", s, b, e)
		}
		decoded(t, b, s, len(b))
		for range c.below(20) {
			b = append(b, byte(c.below(256)))
		}
		decoded(t, b, s, len(bytesBy(s)))
		if again, _, _ := Decode(b); !Same(s, again) || Check(again) != api.OK {
			t.Fatalf("%+v: not the same as %+v", again, s)
		}
	}
}

// P3.5: back and there: what is read of bytes is the script's own bytes, and just what is like such is read.
func TestEncodeOfDecode(t *testing.T) {
	c := chance(9)
	read, left := 0, 0
	for range 40000 {
		b := bytesBy(c.script())
		for range 1 + c.below(3) {
			switch at := c.below(len(b)); c.below(4) {
			case 0:
				b[at] = byte(c.below(256))
			case 1:
				b[at] ^= 1 << c.below(8)
			case 2:
				b = slices.Delete(b, at, at+1)
			case 3:
				b = slices.Insert(b, at, byte(c.below(256)))
			}
			if len(b) == 0 {
				b = []byte{1}
			}
		}
		s, n, e := Decode(b)
		if e == api.ErrBytes {
			left++
			if n != 0 || !alike(s, api.Script{}) {
				t.Fatalf("Decode(%v): %+v, %d, beside ErrBytes", b, s, n)
			}
			continue
		}
		read++
		own, f := Encode(s)
		if e != api.OK || f != api.OK || !slices.Equal(own, b[:n]) {
			t.Fatalf("Decode(%v): %+v, %d, %d, whose bytes are %v, %d", b, s, n, e, own, f)
		}
	}
	if read < 1000 || left < 1000 {
		t.Errorf("%d were read, %d were not: too few to tell", read, left)
	}
}

// P3.5: no script's bytes begin another one's.
func TestNoBytesBeginOthers(t *testing.T) {
	c := chance(10)
	for range 400 {
		b := bytesBy(c.script())
		for n := range b {
			refused(t, "the first of a script's", b[:n])
		}
	}
}

// P3.5: what is cut may be, and says by its bytes what it is.
func TestCutMayBe(t *testing.T) {
	c := chance(11)
	for range 1000 {
		s := c.script()
		picks := c.below(60) - 10
		var goers []int
		for range c.below(6) {
			goers = append(goers, c.below(12)-2)
		}
		cut := Cut(s, picks, goers...)
		if e := Check(cut); e != api.OK {
			t.Fatalf("Cut(%+v, %d, %v): %+v, that may not be", s, picks, goers, cut)
		}
		for n, l := range cut.Lists {
			if named := slices.Contains(goers, n); named && !slices.Equal(l, s.Lists[n]) || !named && len(l) > 0 {
				t.Fatalf("Cut(%+v, %d, %v): list %d: %v", s, picks, goers, n, l)
			}
		}
		if many := min(max(picks, 0), len(s.Picks)); !slices.Equal(cut.Picks, s.Picks[:many]) {
			t.Fatalf("Cut(%+v, %d, %v): picks %v", s, picks, goers, cut.Picks)
		}
		if again := Cut(cut, picks, goers...); !Same(again, cut) {
			t.Fatalf("cut twice: %+v, not %+v", again, cut)
		}
		b := bytesBy(cut)
		decoded(t, b, cut, len(b))
	}
}
