package picks

import (
	"math"
	"math/big"
	"slices"
	"testing"

	"honeycomb/api"
)

// subset are the goroutines whose bits are 1, rising.
func subset(bits int) []int {
	var row []int
	for goer := range 8 {
		if bits>>goer&1 == 1 {
			row = append(row, goer)
		}
	}
	return row
}

// noRows are not who can, of 8 goroutines nor of fewer.
var noRows = [][]int{
	nil,
	{},
	{8},
	{9},
	{-1},
	{math.MinInt},
	{math.MaxInt},
	{1, 0},
	{0, 0},
	{7, 7},
	{0, 1, 1},
	{0, 0, 1},
	{0, 2, 1},
	{2, 0, 1},
	{1, 2, 0},
	{-1, 0},
	{-1, 0, 1, 2},
	{0, -1},
	{math.MinInt, 0},
	{0, math.MinInt},
	{0, 8},
	{0, 1, 2, 3, 4, 5, 6, 8},
	{0, 1, 2, 3, 4, 5, 6, 7, 8},
	{0, 1, 2, 3, 4, 5, 6, 7, 7},
	{0, 1, 2, 3, 4, 5, 6, 7, 0},
	{0, 0, 1, 2, 3, 4, 5, 6, 7},
	{7, 6, 5, 4, 3, 2, 1, 0},
	{0, math.MaxInt},
	{math.MaxInt, 0},
	{math.MaxInt, math.MinInt},
	{0, 256},
	{1 << 32, 1<<32 + 1},
}

// greatPicks are those at which numbers end, or wrap round.
var greatPicks = []int{math.MinInt, math.MinInt + 1, math.MinInt + 7, -1 << 32, math.MinInt32, -1000, 1000, math.MaxInt32, 1 << 32, math.MaxInt - 7, math.MaxInt - 1, math.MaxInt}

// leftBy is what is left of a pick, reckoned in numbers without an end.
func leftBy(pick, many int) int {
	return int(new(big.Int).Mod(big.NewInt(int64(pick)), big.NewInt(int64(many))).Int64())
}

// P4.1: the chapter's examples.
func TestChooseAndSteerExamples(t *testing.T) {
	can := []int{0, 2, 5}
	if who, e := Choose(can, 4); who != 2 || e != api.OK {
		t.Errorf("Choose(0 2 5; 4): %d, %d", who, e)
	}
	if who, e := Choose(can, -1); who != 5 || e != api.OK {
		t.Errorf("Choose(0 2 5; -1): %d, %d", who, e)
	}
	if pick, e := Steer(can, 5); pick != 2 || e != api.OK {
		t.Errorf("Steer(0 2 5; 5): %d, %d", pick, e)
	}
}

// P4.1: each row of who can, by picks on both sides of 0, and by the greatest that there are.
func TestChoose(t *testing.T) {
	for bits := 1; bits < 256; bits++ {
		can := subset(bits)
		for pick := -40; pick <= 40; pick++ {
			if who, e := Choose(can, pick); who != can[leftBy(pick, len(can))] || e != api.OK {
				t.Fatalf("Choose(%v, %d): %d, %d", can, pick, who, e)
			}
		}
		for _, pick := range greatPicks {
			if who, e := Choose(can, pick); who != can[leftBy(pick, len(can))] || e != api.OK {
				t.Fatalf("Choose(%v, %d): %d, %d", can, pick, who, e)
			}
		}
	}
}

// P4.1
func TestChooseGoesRound(t *testing.T) {
	can := []int{1, 3, 4, 7}
	var got []int
	for pick := -5; pick <= 5; pick++ {
		who, _ := Choose(can, pick)
		got = append(got, who)
	}
	if want := []int{7, 1, 3, 4, 7, 1, 3, 4, 7, 1, 3}; !slices.Equal(got, want) {
		t.Errorf("Choose of %v by -5 to 5: %v, not %v", can, got, want)
	}
}

// P4.1: the least pick by which one is chosen; ErrNone of all others.
func TestSteer(t *testing.T) {
	strangers := []int{-2, -1, 8, 9, math.MinInt, math.MaxInt, 1 << 32, 256}
	for bits := 1; bits < 256; bits++ {
		can := subset(bits)
		for who := range 8 {
			pick, e := Steer(can, who)
			if bits>>who&1 == 0 {
				if pick != 0 || e != api.ErrNone {
					t.Fatalf("Steer(%v, %d): %d, %d, not ErrNone", can, who, pick, e)
				}
				continue
			}
			want := 0
			for can[want%len(can)] != who {
				want++
			}
			if pick != want || e != api.OK {
				t.Fatalf("Steer(%v, %d): %d, %d, not %d", can, who, pick, e, want)
			}
		}
		for _, who := range strangers {
			if pick, e := Steer(can, who); pick != 0 || e != api.ErrNone {
				t.Fatalf("Steer(%v, %d): %d, %d, not ErrNone", can, who, pick, e)
			}
		}
	}
}

// P4.7: who is steered to is chosen, and by no lesser pick.
func TestChooseOfSteer(t *testing.T) {
	for bits := 1; bits < 256; bits++ {
		can := subset(bits)
		for _, who := range can {
			pick, e := Steer(can, who)
			if e != api.OK || pick < 0 {
				t.Fatalf("Steer(%v, %d): %d, %d", can, who, pick, e)
			}
			if chosen, _ := Choose(can, pick); chosen != who {
				t.Fatalf("Choose(%v, %d): %d, not %d", can, pick, chosen, who)
			}
			for less := range pick {
				if chosen, _ := Choose(can, less); chosen == who {
					t.Fatalf("Choose(%v, %d): %d, with less than %d", can, less, who, pick)
				}
			}
		}
	}
}

// P4.1, R2: what is not who can; also with who is none of them, as ErrArg is named first.
func TestChooseAndSteerOfNoRows(t *testing.T) {
	for _, row := range noRows {
		for _, pick := range append([]int{-9, -1, 0, 1, 2, 7, 8}, greatPicks...) {
			if who, e := Choose(row, pick); who != 0 || e != api.ErrArg {
				t.Errorf("Choose(%v, %d): %d, %d, not ErrArg", row, pick, who, e)
			}
		}
		for _, who := range []int{math.MinInt, -1, 0, 1, 2, 3, 4, 5, 6, 7, 8, 9, 256, math.MaxInt} {
			if pick, e := Steer(row, who); pick != 0 || e != api.ErrArg {
				t.Errorf("Steer(%v, %d): %d, %d, not ErrArg", row, who, pick, e)
			}
		}
	}
}

// R1: more goroutines than there are, however many.
func TestLongRows(t *testing.T) {
	row := make([]int, 100000)
	for at := range row {
		row[at] = at
	}
	for _, l := range [][]int{row, row[:9], row[8:], make([]int, 100000)} {
		if who, e := Choose(l, 3); who != 0 || e != api.ErrArg {
			t.Errorf("Choose of %d: %d, %d, not ErrArg", len(l), who, e)
		}
		if pick, e := Steer(l, 0); pick != 0 || e != api.ErrArg {
			t.Errorf("Steer of %d: %d, %d, not ErrArg", len(l), pick, e)
		}
	}
	if who, e := Choose(row[:8], 15); who != 7 || e != api.OK {
		t.Errorf("Choose of 8 by 15: %d, %d", who, e)
	}
	if pick, e := Steer(row[:8], 7); pick != 7 || e != api.OK {
		t.Errorf("Steer of 8 to 7: %d, %d", pick, e)
	}
}

// R3: rows stay as they are, and the room behind their end, too.
func TestRowsStay(t *testing.T) {
	all := []int{1, 4, 6, 99, 98}
	was := slices.Clone(all)
	can := all[:3]
	Choose(can, 7)
	Steer(can, 6)
	Steer(can, 5)
	Next(8, []api.Turn{{Can: can, Chosen: 4}}, can...)
	Check(8, []api.Turn{{Can: can, Chosen: 4}})
	Check(5, []api.Turn{{Can: can, Chosen: 4}})
	if !slices.Equal(all, was) {
		t.Errorf("a row is %v, not %v", all, was)
	}
}
