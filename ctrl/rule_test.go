package ctrl

import (
	"encoding/binary"
	"math"
	"slices"
	"testing"

	"honeycomb/api"
)

// row8 are a word's bytes, from the lane 0 on: what the document says is tried on them, byte by byte.
type row8 [8]byte

func split(c uint64) (b row8) {
	binary.LittleEndian.PutUint64(b[:], c)
	return b
}

func (b row8) word() uint64 { return binary.LittleEndian.Uint64(b[:]) }

// mayBy is whether each of a word's bytes is a control byte.
func (b row8) mayBy() bool {
	return !slices.ContainsFunc(b[:], func(one byte) bool { return one > 127 && one != 128 && one != 254 })
}

// lanesBy is the mask of the lanes whose byte is so.
func (b row8) lanesBy(so func(one byte) bool) (m api.Mask) {
	for lane, one := range b {
		if so(one) {
			m += 1 << lane
		}
	}
	return m
}

func isFull(one byte) bool    { return one < 128 }
func isEmpty(one byte) bool   { return one == 128 }
func isDeleted(one byte) bool { return one == 254 }

// matchBy is what Match has to tell.
func (b row8) matchBy(h2 byte) (api.Mask, api.Errno) {
	switch {
	case !b.mayBy():
		return 0, api.ErrCtrl
	case h2 > 127:
		return 0, api.ErrArg
	}
	return b.lanesBy(func(one byte) bool { return one == h2 }), api.OK
}

// fillBy is what Fill has to tell.
func (b row8) fillBy(lane int, h2 byte) (uint64, api.Errno) {
	switch {
	case !b.mayBy():
		return 0, api.ErrCtrl
	case lane < 0 || lane > 7:
		return 0, api.ErrLane
	case h2 > 127:
		return 0, api.ErrArg
	case isFull(b[lane]):
		return 0, api.ErrThere
	}
	b[lane] = h2
	return b.word(), api.OK
}

// eraseBy is what Erase has to tell.
func (b row8) eraseBy(lane int) (uint64, api.Errno) {
	switch {
	case !b.mayBy():
		return 0, api.ErrCtrl
	case lane < 0 || lane > 7:
		return 0, api.ErrLane
	case !isFull(b[lane]):
		return 0, api.ErrNone
	case slices.Contains(b[:], 128):
		b[lane] = 128
	default:
		b[lane] = 254
	}
	return b.word(), api.OK
}

// readyBy is what Ready has to tell.
func (b row8) readyBy() (uint64, api.Errno) {
	if !b.mayBy() {
		return 0, api.ErrCtrl
	}
	for lane, one := range b {
		b[lane] = 128
		if isFull(one) {
			b[lane] = 254
		}
	}
	return b.word(), api.OK
}

// fillsBy is what Fills has to tell: h2 by h2, of each the least slot that is free then.
func (b row8) fillsBy(h2s []byte) (uint64, []int, api.Errno) {
	if !b.mayBy() {
		return 0, nil, api.ErrCtrl
	}
	var which []int
	for _, h2 := range h2s {
		lane := slices.IndexFunc(b[:], func(one byte) bool { return !isFull(one) })
		if h2 > 127 || lane < 0 {
			return 0, nil, api.ErrArg
		}
		b[lane] = h2
		which = append(which, lane)
	}
	return b.word(), which, api.OK
}

// all is the word of which each lane has this byte.
func all(b byte) uint64 { return uint64(b) * 0x0101010101010101 }

// with is a word whose lane has another byte.
func with(c uint64, lane int, one byte) uint64 {
	b := split(c)
	b[lane] = one
	return b.word()
}

// chance are numbers that come to the same with each run of a test.
type chance uint64

func (c *chance) word() uint64 {
	*c ^= *c << 13
	*c ^= *c >> 7
	*c ^= *c << 17
	return uint64(*c) * 0x2545f4914f6cdd1d
}

// kindsOf are words of each row of eight sorts, the first one least: the number says them in threes; full slots have H2s that chance makes, among them those at the edges.
func kindsOf(n int, c *chance) uint64 {
	var b row8
	for lane := range b {
		switch n % 3 {
		case 0:
			b[lane] = []byte{0, 1, 126, 127, 5, 5, byte(c.word() >> 57), byte(c.word() >> 57)}[c.word()%8]
		case 1:
			b[lane] = 128
		case 2:
			b[lane] = 254
		}
		n /= 3
	}
	return b.word()
}

// words are such as may be: each row of eight sorts.
func words() (l []uint64) {
	c := chance(9)
	for n := range 6561 {
		l = append(l, kindsOf(n, &c))
	}
	return l
}

// few are some of the words that may be, among them those at the edges.
func few() []uint64 {
	l := []uint64{
		all(128), all(254), all(0), all(127), all(5), all(1),
		with(all(128), 0, 0), with(all(128), 7, 127), with(all(254), 0, 127), with(all(254), 7, 0), with(all(254), 3, 128),
		with(all(3), 0, 128), with(all(3), 7, 128), with(all(3), 4, 128), with(all(3), 0, 254), with(all(3), 7, 254), with(all(3), 4, 254),
		row8{5, 9, 5, 128, 254, 0, 127, 126}.word(), row8{128, 254, 128, 254, 7, 7, 7, 7}.word(), row8{254, 7, 254, 7, 254, 7, 254, 7}.word(),
	}
	w := words()
	for n := 0; n < len(w); n += 61 {
		l = append(l, w[n])
	}
	return l
}

// noWords are such as may not be: a byte that says nothing in the first lane, in the last one, in each other one; and in several.
func noWords() (l []uint64) {
	for _, no := range []byte{129, 130, 200, 252, 253, 255} {
		l = append(l, all(no))
		for lane := range 8 {
			for _, c := range []uint64{all(128), all(254), all(0), all(127), all(3), row8{5, 9, 5, 128, 254, 0, 127, 126}.word()} {
				l = append(l, with(c, lane, no), with(with(c, lane, no), 7-lane, 253))
			}
		}
	}
	return append(l, math.MaxUint64, 1<<63|1<<56|1, 0xfeff000000000000, 0x80ff, 0xfe7f80007f80fe81)
}

// h2s are those that a slot may have, at the edges and between, and others.
var h2s = []byte{0, 1, 3, 5, 7, 9, 63, 64, 126, 127, 128, 129, 200, 253, 254, 255}

// noLanes are of no slot.
var noLanes = []int{-1, 8, 9, -8, -9, 16, 64, 256, 1 << 32, 1<<32 + 1, -1 << 32, math.MinInt, math.MinInt + 1, math.MaxInt - 1, math.MaxInt}

// TestRules: the words that are tried are those that they are said to be.
func TestRules(t *testing.T) {
	sorts := map[[3]api.Mask]bool{}
	for _, c := range words() {
		b := split(c)
		if !b.mayBy() {
			t.Fatalf("%#x may not be", c)
		}
		sorts[[3]api.Mask{b.lanesBy(isFull), b.lanesBy(isEmpty), b.lanesBy(isDeleted)}] = true
	}
	if len(sorts) != 6561 {
		t.Errorf("%d rows of sorts", len(sorts))
	}
	for _, c := range noWords() {
		if split(c).mayBy() {
			t.Errorf("%#x may be", c)
		}
	}
}
