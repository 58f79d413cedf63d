package lanes

import (
	"encoding/binary"
	"math"
	"slices"
	"testing"

	"honeycomb/api"
)

// words are rows of bytes in which neighbours stand that a carry, or a sign, would mix up; and some mixed ones.
func words() []uint64 {
	l := []uint64{
		0, math.MaxUint64, 513, 16712193,
		0x0001000100010001, 0x0100010001000100, 0x8080808080808080, 0x7f7f7f7f7f7f7f7f,
		0x807f807f807f807f, 0xff00ff00ff00ff00, 0xfe80fe80017f0080, 0x0102030405060708,
		1, 1 << 63, 0x8000000000000001,
	}
	w := uint64(0x9e3779b97f4a7c15)
	for range 40 {
		w ^= w << 13
		w ^= w >> 7
		w ^= w << 17
		l = append(l, w)
	}
	return l
}

// split has the bytes of a word by another way than the package's.
func split(w uint64) (b [8]byte) {
	binary.LittleEndian.PutUint64(b[:], w)
	return b
}

// maskBy is the mask of the lanes that are so.
func maskBy(so func(lane int) bool) (m api.Mask) {
	for lane := range 8 {
		if so(lane) {
			m += 1 << lane
		}
	}
	return m
}

// bytesOf are bytes to hold against a word's: edges, and those that it has, less and more by one, too.
func bytesOf(w uint64) []byte {
	l := []byte{0, 1, 2, 126, 127, 128, 129, 254, 255}
	for _, b := range split(w) {
		l = append(l, b-1, b, b+1)
	}
	return l
}

var noLanes = []int{-1, 8, 9, -8, 64, math.MinInt, math.MaxInt}

// P1.1
func TestOf(t *testing.T) {
	for _, c := range []struct {
		bytes []byte
		want  uint64
	}{
		{nil, 0},
		{[]byte{}, 0},
		{[]byte{7}, 7},
		{[]byte{1, 2, 255}, 16712193},
		{[]byte{0, 0, 0, 0, 0, 0, 0, 128}, 1 << 63},
		{[]byte{1, 2, 3, 4, 5, 6, 7}, 0x0007060504030201},
		{[]byte{1, 2, 3, 4, 5, 6, 7, 8}, 0x0807060504030201},
		{[]byte{1, 2, 3, 4, 5, 6, 7, 8, 9}, 0x0807060504030201},
		{[]byte{1, 2, 3, 4, 5, 6, 7, 8, 255, 255, 255, 255, 255, 255, 255, 255, 255}, 0x0807060504030201},
	} {
		if got := Of(c.bytes...); got != c.want {
			t.Errorf("Of(%v): %#x, not %#x", c.bytes, got, c.want)
		}
	}
}

// P1.1, R3: what lies behind the row's end is not looked at, and nothing of it is changed.
func TestOfLeavesItsRow(t *testing.T) {
	room := []byte{1, 2, 3, 4, 5, 6, 7, 8, 9, 10}
	if got := Of(room[:2]...); got != 513 {
		t.Errorf("Of the first two: %d", got)
	}
	if !slices.Equal(room, []byte{1, 2, 3, 4, 5, 6, 7, 8, 9, 10}) {
		t.Errorf("the row was changed: %v", room)
	}
}

// P1.1
func TestBytes(t *testing.T) {
	if got := Bytes(513); got != [8]byte{1, 2} {
		t.Errorf("Bytes(513): %v", got)
	}
	for _, w := range words() {
		if got := Bytes(w); got != split(w) {
			t.Errorf("Bytes(%#x): %v", w, got)
		}
	}
}

// P1.1
func TestFill(t *testing.T) {
	if got := Fill(3); got != 217020518514230019 {
		t.Errorf("Fill(3): %d", got)
	}
	for b := range 256 {
		if got := Fill(byte(b)); got != uint64(b)*0x0101010101010101 {
			t.Errorf("Fill(%d): %#x", b, got)
		}
	}
}

// P1.2
func TestGet(t *testing.T) {
	for _, w := range words() {
		for lane, want := range split(w) {
			if b, e := Get(w, lane); b != want || e != api.OK {
				t.Errorf("Get(%#x, %d): %d, %d", w, lane, b, e)
			}
		}
		for _, lane := range noLanes {
			if b, e := Get(w, lane); b != 0 || e != api.ErrLane {
				t.Errorf("Get(%#x, %d): %d, %d, not 0, ErrLane", w, lane, b, e)
			}
		}
	}
}

// P1.2
func TestPut(t *testing.T) {
	for _, c := range []struct {
		w     uint64
		b     byte
		lanes []int
		want  uint64
	}{
		{0, 7, []int{1, 0}, 1799},
		{513, 7, nil, 513},
		{513, 7, []int{}, 513},
		{513, 1, []int{0}, 513},
		{513, 0, []int{0}, 512},
		{513, 0, []int{1, 0}, 0},
		{0, 255, []int{7}, 255 << 56},
		{0, 9, []int{2, 2}, 9 << 16},
		{0, 9, []int{2, 2, 2}, 9 << 16},
		{math.MaxUint64, 0, []int{0, 1, 2, 3, 4, 5, 6, 7}, 0},
		{0, 255, []int{7, 6, 5, 4, 3, 2, 1, 0, 0, 7}, math.MaxUint64},
	} {
		if got, e := Put(c.w, c.b, c.lanes...); got != c.want || e != api.OK {
			t.Errorf("Put(%#x, %d, %v): %#x, %d, not %#x", c.w, c.b, c.lanes, got, e, c.want)
		}
	}
}

// P1.2
func TestPutOfNoLane(t *testing.T) {
	for _, lane := range noLanes {
		for _, l := range [][]int{{lane}, {lane, 0}, {0, lane}, {3, lane, 4}, {lane, lane}} {
			if w, e := Put(513, 7, l...); w != 0 || e != api.ErrLane {
				t.Errorf("Put of %v: %#x, %d, not 0, ErrLane", l, w, e)
			}
		}
	}
}

// P1.2, R3
func TestPutLeavesItsRow(t *testing.T) {
	room := []int{1, 0, 99, -5}
	if w, e := Put(0, 7, room[:2]...); w != 1799 || e != api.OK {
		t.Errorf("Put: %d, %d", w, e)
	}
	if !slices.Equal(room, []int{1, 0, 99, -5}) {
		t.Errorf("the row was changed: %v", room)
	}
}

// P1.3
func TestEqualAndBelow(t *testing.T) {
	if a, b := Equal(513, 0), Below(513, 2); a != 252 || b != 253 {
		t.Errorf("Equal, Below: %d, %d", a, b)
	}
	for _, w := range words() {
		l := split(w)
		for _, b := range bytesOf(w) {
			if got, want := Equal(w, b), maskBy(func(n int) bool { return l[n] == b }); got != want {
				t.Errorf("Equal(%#x, %d): %08b, not %08b", w, b, got, want)
			}
			if got, want := Below(w, b), maskBy(func(n int) bool { return l[n] < b }); got != want {
				t.Errorf("Below(%#x, %d): %08b, not %08b", w, b, got, want)
			}
		}
	}
}

// P1.3: each byte against each, in each lane, next to all kinds of others.
func TestEqualAndBelowOfEachByte(t *testing.T) {
	for x := range 256 {
		for y := range 256 {
			w := uint64(x)<<24 | 0xff_00_80_7f<<32 | 0x01_00_ff
			if got := Equal(w, byte(y))>>3&1 == 1; got != (x == y) {
				t.Fatalf("Equal: %d against %d: %t", x, y, got)
			}
			if got := Below(w, byte(y))>>3&1 == 1; got != (x < y) {
				t.Fatalf("Below: %d against %d: %t", x, y, got)
			}
		}
	}
}

// P1.3
func TestAlike(t *testing.T) {
	if got := Alike(513, 1); got != 253 {
		t.Errorf("Alike(513, 1): %d", got)
	}
	for _, v := range words() {
		for _, w := range append(words(), v, v^0x80, v^1<<63, v+1, v-1, v^0xff00ff00) {
			a, b := split(v), split(w)
			if got, want := Alike(v, w), maskBy(func(n int) bool { return a[n] == b[n] }); got != want {
				t.Errorf("Alike(%#x, %#x): %08b, not %08b", v, w, got, want)
			}
		}
	}
}

// P1.4
func TestBlend(t *testing.T) {
	if got := Blend(0, 513, 2); got != 512 {
		t.Errorf("Blend(0, 513, 2): %d", got)
	}
	for _, p := range [][2]uint64{{0, 513}, {513, 0}, {0x0102030405060708, 0x1112131415161718}, {0, math.MaxUint64}, {math.MaxUint64, 0x8000000000000080}} {
		a, b := split(p[0]), split(p[1])
		for m := range 256 {
			got := split(Blend(p[0], p[1], api.Mask(m)))
			for n := range 8 {
				want := a[n]
				if m>>n&1 == 1 {
					want = b[n]
				}
				if got[n] != want {
					t.Errorf("Blend(%#x, %#x, %08b): lane %d: %d, not %d", p[0], p[1], m, n, got[n], want)
				}
			}
		}
	}
}

// P1.4
func TestFirstAndAll(t *testing.T) {
	if n, ok := First(12); n != 2 || !ok {
		t.Errorf("First(12): %d, %t", n, ok)
	}
	if n, ok := First(0); n != 0 || ok {
		t.Errorf("First(0): %d, %t, not 0, false", n, ok)
	}
	for m := range 256 {
		var want []int
		for n := range 8 {
			if m>>n&1 == 1 {
				want = append(want, n)
			}
		}
		if got := All(api.Mask(m)); !slices.Equal(got, want) {
			t.Errorf("All(%08b): %v", m, got)
		}
		if n, ok := First(api.Mask(m)); m > 0 && (n != want[0] || !ok) {
			t.Errorf("First(%08b): %d, %t", m, n, ok)
		}
	}
}

// P1.4, R3: what one call tells shares nothing with what another one does.
func TestAllIsNew(t *testing.T) {
	l := All(5)
	l[0], l[1] = 7, 7
	if got := All(5); !slices.Equal(got, []int{0, 2}) {
		t.Errorf("All(5) behind a change of what it told: %v", got)
	}
}

// P1.5
func TestTurn(t *testing.T) {
	for _, c := range []struct {
		w    uint64
		by   int
		want uint64
	}{
		{513, 0, 513},
		{513, 1, 72057594037927938},
		{513, -1, 131328},
		{0x0807060504030201, 3, 0x0302010807060504},
		{0x0807060504030201, -3, 0x0504030201080706},
		{0x0807060504030201, 8, 0x0807060504030201},
		{0x0807060504030201, -8, 0x0807060504030201},
		{0x0807060504030201, 7, 0x0706050403020108},
		{0x0807060504030201, 15, 0x0706050403020108},
		{0x0807060504030201, math.MaxInt, 0x0706050403020108},
		{0x0807060504030201, math.MaxInt - 1, 0x0605040302010807},
		{0x0807060504030201, math.MinInt, 0x0807060504030201},
		{0x0807060504030201, math.MinInt + 1, 0x0108070605040302},
		{0x0807060504030201, 800000001, 0x0108070605040302},
		{0x0807060504030201, -800000001, 0x0706050403020108},
	} {
		if got := Turn(c.w, c.by); got != c.want {
			t.Errorf("Turn(%#x, %d): %#x, not %#x", c.w, c.by, got, c.want)
		}
	}
	for _, w := range words() {
		l := split(w)
		for by := -40; by <= 40; by++ {
			got := split(Turn(w, by))
			for n := range 8 {
				if got[n] != l[(n+by+400)%8] {
					t.Errorf("Turn(%#x, %d): lane %d: %d", w, by, n, got[n])
				}
			}
		}
	}
}

// P1.6: Bytes of Of are the bytes.
func TestBytesOfOf(t *testing.T) {
	for _, w := range words() {
		l := Bytes(w)
		if got := Of(l[:]...); got != w {
			t.Errorf("Of(Bytes(%#x)): %#x", w, got)
		}
		for n := range 9 {
			got := Bytes(Of(l[:n]...))
			if !slices.Equal(got[:n], l[:n]) || slices.ContainsFunc(got[n:], func(b byte) bool { return b != 0 }) {
				t.Errorf("Bytes(Of(%v)): %v", l[:n], got)
			}
		}
	}
}

// P1.6: what is put is there, and nowhere else.
func TestWhatIsPut(t *testing.T) {
	for _, w := range words() {
		for m := range 256 {
			lanes := All(api.Mask(m))
			for _, b := range []byte{0, 1, 0x80, 0xfe, 0xff} {
				got, e := Put(w, b, lanes...)
				if e != api.OK || got != Blend(w, Fill(b), api.Mask(m)) {
					t.Fatalf("Put(%#x, %d, %v): %#x, %d", w, b, lanes, got, e)
				}
				if Equal(got, b)&api.Mask(m) != api.Mask(m) || Alike(w, got)|api.Mask(m) != 255 {
					t.Fatalf("Put(%#x, %d, %v): %#x", w, b, lanes, got)
				}
			}
		}
	}
}

// P1.6: each lane is in just one of equal, below, and the rest.
func TestEachLaneIsInOne(t *testing.T) {
	for _, w := range words() {
		for _, b := range bytesOf(w) {
			equal, below := Equal(w, b), Below(w, b)
			rest := maskBy(func(n int) bool { x, _ := Get(w, n); return x > b })
			if equal&below != 0 || equal|below != ^rest {
				t.Errorf("%#x against %d: equal %08b, below %08b", w, b, equal, below)
			}
		}
	}
}

// P1.6: blended with all it is the one, with none the other.
func TestBlendedWithAllAndNone(t *testing.T) {
	for _, v := range words() {
		for _, w := range words() {
			if all, none := Blend(v, w, 255), Blend(v, w, 0); all != w || none != v {
				t.Errorf("Blend(%#x, %#x): with all %#x, with none %#x", v, w, all, none)
			}
		}
	}
}

// P1.6: turned by n, and by minus n, it is as it was.
func TestTurnedThereAndBack(t *testing.T) {
	for _, w := range words() {
		for _, by := range []int{0, 1, 3, 7, 8, 9, -1, -5, -13, 1 << 40, 12345678901, math.MaxInt, math.MinInt} {
			if got := Turn(Turn(w, by), -by); got != w {
				t.Errorf("Turn(%#x) by %d and back: %#x", w, by, got)
			}
		}
	}
}
