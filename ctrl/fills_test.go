package ctrl

import (
	"slices"
	"testing"

	"honeycomb/api"
)

// holdFills holds Fills against what is filled h2 by h2; and what follows of it.
func holdFills(t *testing.T, c uint64, l []byte) {
	t.Helper()
	want, lanes, no := split(c).fillsBy(l)
	got, which, e := Fills(c, l...)
	if got != want || !slices.Equal(which, lanes) || e != no {
		t.Fatalf("Fills(%#x; %v): %#x, %v, %d, not %#x, %v, %d", c, l, got, which, e, want, lanes, no)
	}
	if e != api.OK {
		if which != nil {
			t.Fatalf("Fills(%#x; %v): %d, with a row", c, l, e)
		}
		return
	}
	one := c
	for n, h2 := range l {
		filled, e := Fill(one, which[n], h2)
		if m, _ := Match(got, h2); e != api.OK || m>>which[n]&1 != 1 {
			t.Fatalf("Fills(%#x; %v): %#x, %v; Fill of the %d.: %d, matches %d", c, l, got, which, n, e, m)
		}
		one = filled
	}
	if one != got || Check(got) != api.OK {
		t.Fatalf("Fills(%#x; %v): %#x, by Fills one by one %#x", c, l, got, one)
	}
}

// P9.4, P9.5: of all rows of sorts: no H2, one, each number of them up to as many as are free, one too many, and more.
func TestFills(t *testing.T) {
	c := chance(94)
	for _, w := range words() {
		for many := range 11 {
			l := make([]byte, many)
			for n := range l {
				l[n] = byte(c.word() >> 57)
			}
			holdFills(t, w, l)
		}
	}
}

// P9.4: each H2, and each number beyond, alone, in front, in the middle, and last.
func TestFillsOfEachByte(t *testing.T) {
	for _, w := range few() {
		for h2 := range 256 {
			b := byte(h2)
			for _, l := range [][]byte{{b}, {b, 5}, {5, b}, {5, b, 5}, {b, b, b, b, b, b, b, b}, {0, 1, 2, 3, 4, 5, 6, b}, {0, 1, 2, 3, 4, 5, 6, 7, b}, {b, 1, 2, 3, 4, 5, 6, 7, 8}} {
				holdFills(t, w, l)
			}
		}
	}
}

// P9.4: in numbers.
func TestFillsInNumbers(t *testing.T) {
	for _, c := range []struct {
		c     uint64
		h2s   []byte
		want  uint64
		which []int
		e     api.Errno
	}{
		{0x8080808080808080, nil, 0x8080808080808080, nil, api.OK},
		{0x8080808080808080, []byte{}, 0x8080808080808080, nil, api.OK},
		{0, nil, 0, nil, api.OK},
		{0x8080808080808080, []byte{0}, 0x8080808080808000, []int{0}, api.OK},
		{0x8080808080808080, []byte{127, 0}, 0x808080808080007f, []int{0, 1}, api.OK},
		{0x8080808080808080, []byte{1, 2, 3, 4, 5, 6, 7, 8}, 0x0807060504030201, []int{0, 1, 2, 3, 4, 5, 6, 7}, api.OK},
		{0x8080808080808080, []byte{1, 2, 3, 4, 5, 6, 7, 8, 9}, 0, nil, api.ErrArg},
		{0xfefefefefefefefe, []byte{1, 2, 3, 4, 5, 6, 7, 8}, 0x0807060504030201, []int{0, 1, 2, 3, 4, 5, 6, 7}, api.OK},
		{0x80fe000080fe0000, []byte{9}, 0x80fe000080090000, []int{2}, api.OK},
		{0x80fe000080fe0000, []byte{9, 8}, 0x80fe000008090000, []int{2, 3}, api.OK},
		{0x80fe000080fe0000, []byte{9, 8, 7}, 0x8007000008090000, []int{2, 3, 6}, api.OK},
		{0x80fe000080fe0000, []byte{9, 8, 7, 6}, 0x0607000008090000, []int{2, 3, 6, 7}, api.OK},
		{0x80fe000080fe0000, []byte{9, 8, 7, 6, 5}, 0, nil, api.ErrArg},
		{0x80fe000080fe0000, []byte{9, 128}, 0, nil, api.ErrArg},
		{0x80fe000080fe0000, []byte{255, 9}, 0, nil, api.ErrArg},
		{0x80fe000080fe0000, []byte{9, 8, 7, 6, 128}, 0, nil, api.ErrArg},
		{0x7f00000000000000, []byte{0}, 0, nil, api.ErrArg},
		{0x7f00000000000000, []byte{128}, 0, nil, api.ErrArg},
		{0x7f00000000000000, []byte{0, 128}, 0, nil, api.ErrArg},
		{0x81, nil, 0, nil, api.ErrCtrl},
		{0x81, []byte{128}, 0, nil, api.ErrCtrl},
	} {
		if got, which, e := Fills(c.c, c.h2s...); got != c.want || !slices.Equal(which, c.which) || e != c.e {
			t.Errorf("Fills(%#x; %v): %#x, %v, %d, not %#x, %v, %d", c.c, c.h2s, got, which, e, c.want, c.which, c.e)
		}
	}
}

// P9.4, R1: very many H2s end, too.
func TestFillsOfVeryMany(t *testing.T) {
	many := make([]byte, 1<<24)
	if got, which, e := Fills(New(), many...); got != 0 || which != nil || e != api.ErrArg {
		t.Errorf("Fills of very many: %#x, %v, %d", got, which, e)
	}
}

// P9.4, R3: H2s stay as they are, the room behind their end, too, which is not looked at.
func TestH2sStay(t *testing.T) {
	room := []byte{9, 8, 7, 255, 128, 6}
	was := slices.Clone(room)
	for many := range len(room) + 1 {
		for _, c := range append(few(), noWords()...) {
			want, lanes, no := split(c).fillsBy(was[:many])
			if got, which, e := Fills(c, room[:many]...); got != want || !slices.Equal(which, lanes) || e != no {
				t.Fatalf("Fills(%#x; %v): %#x, %v, %d, not %#x, %v, %d", c, was[:many], got, which, e, want, lanes, no)
			}
		}
	}
	if !slices.Equal(room, was) {
		t.Errorf("H2s are %v, not %v", room, was)
	}
}

// P9.4, R3, R5: which slots is told anew each time, whatever was done with what was told ahead of it, or with the H2s behind it.
func TestToldSlotsAreNew(t *testing.T) {
	const c = 0x808080fe80038003
	want := []int{1, 3, 4}
	var told [][]int
	for range 3 {
		l := []byte{5, 9, 5}
		got, which, e := Fills(c, l...)
		if got != 0x8080800509030503 || !slices.Equal(which, want) || e != api.OK {
			t.Fatalf("Fills: %#x, %v, %d", got, which, e)
		}
		clear(l)
		told = append(told, which)
	}
	clear(told[0])
	told[1] = append(told[1], -8)[:1]
	told[1][0] = -9
	if !slices.Equal(told[2], want) {
		t.Errorf("Fills, told ahead: %v", told[2])
	}
	if _, which, _ := Fills(c, 5, 9, 5); !slices.Equal(which, want) {
		t.Errorf("Fills, told anew: %v", which)
	}
}
