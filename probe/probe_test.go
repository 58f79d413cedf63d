package probe

import (
	"math"
	"slices"
	"testing"

	"honeycomb/api"
)

// P8.1: of all numbers around those that there may be, and of far ones.
func TestCheck(t *testing.T) {
	for groups := -300; groups <= 300; groups++ {
		want := api.ErrGroups
		if slices.Contains(sizes, groups) {
			want = api.OK
		}
		if e := Check(groups); e != want {
			t.Errorf("Check(%d): %d, not %d", groups, e, want)
		}
	}
	for _, groups := range noSizes {
		if e := Check(groups); e != api.ErrGroups {
			t.Errorf("Check(%d): %d, not ErrGroups", groups, e)
		}
	}
}

// P8.1 to P8.5: ErrGroups goes ahead of all else, and stands alone: whether what comes with it is right for some groups, or wrong.
func TestNoSuchGroups(t *testing.T) {
	numbers := []int{math.MinInt, -1, 0, 1, 2, 63, 64, math.MaxInt}
	flags := [][]bool{nil, {}, {true}, {false}, flagsOf(3, 1), flagsOf(3), flagsOf(64, 0), flagsOf(65, 64), flagsOf(128)}
	for _, groups := range noSizes {
		for _, h1 := range []uint64{0, 1, 5, math.MaxUint64} {
			for _, n := range numbers {
				if got, e := At(groups, h1, n); got != 0 || e != api.ErrGroups {
					t.Errorf("At(%d, %d, %d): %d, %d", groups, h1, n, got, e)
				}
				if got, e := Place(groups, h1, n); got != 0 || e != api.ErrGroups {
					t.Errorf("Place(%d, %d, %d): %d, %d", groups, h1, n, got, e)
				}
				for _, i := range numbers {
					if got, e := Next(groups, n, i); got != 0 || e != api.ErrGroups {
						t.Errorf("Next(%d, %d, %d): %d, %d", groups, n, i, got, e)
					}
				}
			}
			if got, e := Row(groups, h1); got != nil || e != api.ErrGroups {
				t.Errorf("Row(%d, %d): %v, %d", groups, h1, got, e)
			}
			for _, is := range flags {
				if i, group, e := First(groups, h1, is...); i != 0 || group != 0 || e != api.ErrGroups {
					t.Errorf("First(%d, %d, %v): %d, %d, %d", groups, h1, is, i, group, e)
				}
			}
			for _, h1s := range [][]uint64{nil, {}, {h1}, {h1, h1, 7}} {
				if got, e := Far(groups, h1s...); got != nil || e != api.ErrGroups {
					t.Errorf("Far(%d; %v): %v, %d", groups, h1s, got, e)
				}
			}
		}
	}
}

// P8.2: rows in numbers, of each number of groups.
func TestRowInNumbers(t *testing.T) {
	const all = math.MaxUint64
	for _, c := range []struct {
		groups int
		h1     uint64
		want   []int
	}{
		{1, 0, []int{0}},
		{1, 1, []int{0}},
		{1, all, []int{0}},
		{2, 0, []int{0, 1}},
		{2, 1, []int{1, 0}},
		{2, 2, []int{0, 1}},
		{2, all, []int{1, 0}},
		{4, 0, []int{0, 1, 3, 2}},
		{4, 1, []int{1, 2, 0, 3}},
		{4, 2, []int{2, 3, 1, 0}},
		{4, 3, []int{3, 0, 2, 1}},
		{4, 5, []int{1, 2, 0, 3}},
		{4, all - 1, []int{2, 3, 1, 0}},
		{4, all, []int{3, 0, 2, 1}},
		{8, 0, []int{0, 1, 3, 6, 2, 7, 5, 4}},
		{8, 1, []int{1, 2, 4, 7, 3, 0, 6, 5}},
		{8, 7, []int{7, 0, 2, 5, 1, 6, 4, 3}},
		{8, 1 << 63, []int{0, 1, 3, 6, 2, 7, 5, 4}},
		{8, all, []int{7, 0, 2, 5, 1, 6, 4, 3}},
		{16, 0, []int{0, 1, 3, 6, 10, 15, 5, 12, 4, 13, 7, 2, 14, 11, 9, 8}},
		{16, all, []int{15, 0, 2, 5, 9, 14, 4, 11, 3, 12, 6, 1, 13, 10, 8, 7}},
		{32, 0, []int{0, 1, 3, 6, 10, 15, 21, 28, 4, 13, 23, 2, 14, 27, 9, 24, 8, 25, 11, 30, 18, 7, 29, 20, 12, 5, 31, 26, 22, 19, 17, 16}},
		{32, 33, []int{1, 2, 4, 7, 11, 16, 22, 29, 5, 14, 24, 3, 15, 28, 10, 25, 9, 26, 12, 31, 19, 8, 30, 21, 13, 6, 0, 27, 23, 20, 18, 17}},
		{64, 0, []int{
			0, 1, 3, 6, 10, 15, 21, 28, 36, 45, 55, 2, 14, 27, 41, 56,
			8, 25, 43, 62, 18, 39, 61, 20, 44, 5, 31, 58, 22, 51, 17, 48,
			16, 49, 19, 54, 26, 63, 37, 12, 52, 29, 7, 50, 30, 11, 57, 40,
			24, 9, 59, 46, 34, 23, 13, 4, 60, 53, 47, 42, 38, 35, 33, 32}},
		{64, all, []int{
			63, 0, 2, 5, 9, 14, 20, 27, 35, 44, 54, 1, 13, 26, 40, 55,
			7, 24, 42, 61, 17, 38, 60, 19, 43, 4, 30, 57, 21, 50, 16, 47,
			15, 48, 18, 53, 25, 62, 36, 11, 51, 28, 6, 49, 29, 10, 56, 39,
			23, 8, 58, 45, 33, 22, 12, 3, 59, 52, 46, 41, 37, 34, 32, 31}},
	} {
		if got, e := Row(c.groups, c.h1); !slices.Equal(got, c.want) || e != api.OK {
			t.Errorf("Row(%d, %d): %v, %d, not %v", c.groups, c.h1, got, e, c.want)
		}
		for i, want := range c.want {
			if got, e := At(c.groups, c.h1, i); got != want || e != api.OK {
				t.Errorf("At(%d, %d, %d): %d, %d, not %d", c.groups, c.h1, i, got, e, want)
			}
			if got, e := Place(c.groups, c.h1, want); got != i || e != api.OK {
				t.Errorf("Place(%d, %d, %d): %d, %d, not %d", c.groups, c.h1, want, got, e, i)
			}
		}
	}
}

// P8.2, P8.3: each row, and each place of it.
func TestRowAtAndPlace(t *testing.T) {
	for _, groups := range sizes {
		for _, h1 := range hashes(groups) {
			want := rowBy(groups, h1)
			if got, e := Row(groups, h1); !slices.Equal(got, want) || e != api.OK {
				t.Fatalf("Row(%d, %d): %v, %d, not %v", groups, h1, got, e, want)
			}
			for i := range groups {
				if got, e := At(groups, h1, i); got != want[i] || e != api.OK {
					t.Fatalf("At(%d, %d, %d): %d, %d, not %d", groups, h1, i, got, e, want[i])
				}
				if got, e := Place(groups, h1, want[i]); got != i || e != api.OK {
					t.Fatalf("Place(%d, %d, %d): %d, %d, not %d", groups, h1, want[i], got, e, i)
				}
			}
		}
	}
}

// P8.2, P8.3: a row has no place, and there is no group, ahead of the first one nor behind the last one.
func TestOutsideOfARow(t *testing.T) {
	for _, groups := range sizes {
		for _, h1 := range []uint64{0, 1, uint64(groups) - 1, math.MaxUint64} {
			for _, n := range outsides(groups) {
				if got, e := At(groups, h1, n); got != 0 || e != api.ErrArg {
					t.Errorf("At(%d, %d, %d): %d, %d, not ErrArg", groups, h1, n, got, e)
				}
				if got, e := Place(groups, h1, n); got != 0 || e != api.ErrArg {
					t.Errorf("Place(%d, %d, %d): %d, %d, not ErrArg", groups, h1, n, got, e)
				}
			}
		}
	}
}

// P8.3: the group behind each group, at each place that some row has it at.
func TestNext(t *testing.T) {
	for _, groups := range sizes {
		met := 0
		for h1 := range uint64(groups) { // each group is, in one of these rows, the i-th
			row := rowBy(groups, h1)
			for i := range groups - 1 {
				if got, e := Next(groups, row[i], i); got != row[i+1] || e != api.OK {
					t.Fatalf("Next(%d, %d, %d): %d, %d, not %d", groups, row[i], i, got, e, row[i+1])
				}
				met++
			}
		}
		if met != groups*(groups-1) {
			t.Fatalf("of %d groups, %d were tried", groups, met)
		}
	}
}

// P8.3: in numbers, up to the edges.
func TestNextInNumbers(t *testing.T) {
	for _, c := range []struct {
		groups, at, i, want int
		e                   api.Errno
	}{
		{1, 0, 0, 0, api.ErrArg},
		{1, 0, -1, 0, api.ErrArg},
		{1, 0, 1, 0, api.ErrArg},
		{1, 1, 0, 0, api.ErrArg},
		{2, 0, 0, 1, api.OK},
		{2, 1, 0, 0, api.OK},
		{2, 0, 1, 0, api.ErrArg},
		{2, 1, 1, 0, api.ErrArg},
		{2, 2, 0, 0, api.ErrArg},
		{2, 0, -1, 0, api.ErrArg},
		{4, 2, 1, 0, api.OK},
		{4, 0, 0, 1, api.OK},
		{4, 3, 0, 0, api.OK},
		{4, 3, 1, 1, api.OK},
		{4, 3, 2, 2, api.OK},
		{4, 0, 2, 3, api.OK},
		{4, 3, 3, 0, api.ErrArg},
		{4, 3, 4, 0, api.ErrArg},
		{4, 4, 2, 0, api.ErrArg},
		{4, -1, 2, 0, api.ErrArg},
		{4, -1, -1, 0, api.ErrArg},
		{64, 0, 0, 1, api.OK},
		{64, 63, 0, 0, api.OK},
		{64, 0, 62, 63, api.OK},
		{64, 1, 62, 0, api.OK},
		{64, 63, 62, 62, api.OK},
		{64, 63, 63, 0, api.ErrArg},
		{64, 64, 62, 0, api.ErrArg},
	} {
		if got, e := Next(c.groups, c.at, c.i); got != c.want || e != c.e {
			t.Errorf("Next(%d, %d, %d): %d, %d, not %d, %d", c.groups, c.at, c.i, got, e, c.want, c.e)
		}
	}
}

// P8.3: behind no group, and behind the last one of a row, there is none.
func TestNextOfNone(t *testing.T) {
	for _, groups := range sizes {
		for fine := range groups {
			for _, n := range outsides(groups) {
				if got, e := Next(groups, fine, n); got != 0 || e != api.ErrArg {
					t.Errorf("Next(%d, %d, %d): %d, %d, not ErrArg", groups, fine, n, got, e)
				}
				if got, e := Next(groups, n, fine); got != 0 || e != api.ErrArg {
					t.Errorf("Next(%d, %d, %d): %d, %d, not ErrArg", groups, n, fine, got, e)
				}
			}
			if got, e := Next(groups, fine, groups-1); got != 0 || e != api.ErrArg {
				t.Errorf("Next(%d, %d, %d), behind the last one: %d, %d, not ErrArg", groups, fine, groups-1, got, e)
			}
		}
	}
}

// P8.6: a row has each group once, goes on from each to the next by Next, and is that of what is left of its hash.
func TestWhatFollowsOfRows(t *testing.T) {
	for _, groups := range sizes {
		all := make([]int, groups)
		for group := range all {
			all[group] = group
		}
		for _, h1 := range hashes(groups) {
			row, _ := Row(groups, h1)
			if sorted := slices.Sorted(slices.Values(row)); !slices.Equal(sorted, all) {
				t.Fatalf("Row(%d, %d): %v, which has not each group once", groups, h1, row)
			}
			for i := range groups - 1 {
				if got, e := Next(groups, row[i], i); got != row[i+1] || e != api.OK {
					t.Fatalf("Row(%d, %d): %v, where behind %d, the %d., comes %d, %d", groups, h1, row, row[i], i, got, e)
				}
			}
			alike, _ := Row(groups, h1%uint64(groups))
			far, _ := Row(groups, h1+uint64(groups)*0x123456789abc) // beyond the last word it goes on from 0, where the same is left
			if !slices.Equal(alike, row) || !slices.Equal(far, row) || row[0] != int(h1%uint64(groups)) {
				t.Fatalf("Row(%d, %d): %v; of hashes of which the same is left %v, %v", groups, h1, row, alike, far)
			}
		}
	}
}

// P8.2, R3, R5: a row that is told is new each time, whatever was done with one that was told ahead of it.
func TestToldRowsAreNew(t *testing.T) {
	for _, groups := range sizes {
		want := rowBy(groups, 3)
		var told [][]int
		for range 3 {
			row, e := Row(groups, 3)
			if !slices.Equal(row, want) || e != api.OK {
				t.Fatalf("Row(%d, 3): %v, %d, not %v", groups, row, e, want)
			}
			told = append(told, row)
		}
		for at := range told[0] {
			told[0][at] = -7
		}
		told[1] = append(told[1], -8)[:1]
		told[1][0] = -9
		if !slices.Equal(told[2], want) {
			t.Errorf("Row(%d, 3), told ahead: %v", groups, told[2])
		}
		if at, _ := At(groups, 3, groups-1); at != want[groups-1] {
			t.Errorf("At(%d, 3, %d): %d", groups, groups-1, at)
		}
	}
}

// P8.2 to P8.5: the chapter's examples.
func TestExamples(t *testing.T) {
	if row, e := Row(4, 5); !slices.Equal(row, []int{1, 2, 0, 3}) || e != api.OK {
		t.Errorf("Row(4, 5): %v, %d", row, e)
	}
	if row, e := Row(8, 0); !slices.Equal(row, []int{0, 1, 3, 6, 2, 7, 5, 4}) || e != api.OK {
		t.Errorf("Row(8, 0): %v, %d", row, e)
	}
	if group, e := At(4, 5, 2); group != 0 || e != api.OK {
		t.Errorf("At(4, 5, 2): %d, %d", group, e)
	}
	if i, e := Place(4, 5, 0); i != 2 || e != api.OK {
		t.Errorf("Place(4, 5, 0): %d, %d", i, e)
	}
	if group, e := Next(4, 2, 1); group != 0 || e != api.OK {
		t.Errorf("Next(4, 2, 1): %d, %d", group, e)
	}
	if group, e := Next(4, 3, 3); group != 0 || e != api.ErrArg {
		t.Errorf("Next(4, 3, 3): %d, %d", group, e)
	}
	if e := Check(3); e != api.ErrGroups {
		t.Errorf("Check(3): %d", e)
	}
	if i, group, e := First(4, 5, true, false, false, true); i != 2 || group != 0 || e != api.OK {
		t.Errorf("First(4, 5; flags of 0 and 3): %d, %d, %d", i, group, e)
	}
	if sums, e := Far(2, 0, 0, 1); !slices.Equal(sums, []int{1, 2}) || e != api.OK {
		t.Errorf("Far(2; 0 0 1): %v, %d", sums, e)
	}
}
