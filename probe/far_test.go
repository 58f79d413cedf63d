package probe

import (
	"math"
	"slices"
	"testing"

	"honeycomb/api"
)

// P8.5: in numbers.
func TestFarInNumbers(t *testing.T) {
	const all = math.MaxUint64
	for _, c := range []struct {
		groups int
		h1s    []uint64
		want   []int
	}{
		{1, nil, []int{0}},
		{1, []uint64{0}, []int{0}},
		{1, []uint64{0, 1, all}, []int{0}},
		{2, nil, []int{0, 0}},
		{2, []uint64{0}, []int{0, 1}},
		{2, []uint64{1}, []int{1, 0}},
		{2, []uint64{all}, []int{1, 0}},
		{2, []uint64{0, 0}, []int{0, 2}},
		{2, []uint64{0, 0, 1}, []int{1, 2}},
		{2, []uint64{0, 2, 4, 1<<63 + 2}, []int{0, 4}},
		{4, nil, []int{0, 0, 0, 0}},
		{4, []uint64{5}, []int{2, 0, 1, 3}},
		{4, []uint64{5, 5, 5}, []int{6, 0, 3, 9}},
		{4, []uint64{0}, []int{0, 1, 3, 2}},
		{4, []uint64{0, 5}, []int{2, 1, 4, 5}},
		{4, []uint64{0, 1, 2, 3}, []int{6, 6, 6, 6}},
		{4, []uint64{all}, []int{1, 3, 2, 0}},
		{8, []uint64{0}, []int{0, 1, 4, 2, 7, 6, 3, 5}},
		{8, []uint64{all, 0}, []int{1, 5, 6, 9, 13, 9, 8, 5}},
	} {
		if got, e := Far(c.groups, c.h1s...); !slices.Equal(got, c.want) || e != api.OK {
			t.Errorf("Far(%d; %v): %v, %d, not %v", c.groups, c.h1s, got, e, c.want)
		}
	}
}

// holdFar holds Far against what is added hash by hash; and what follows: how much all sums are together.
func holdFar(t *testing.T, groups int, h1s []uint64) {
	t.Helper()
	want := farBy(groups, h1s)
	got, e := Far(groups, h1s...)
	if !slices.Equal(got, want) || e != api.OK {
		t.Fatalf("Far(%d; %v): %v, %d, not %v", groups, h1s, got, e, want)
	}
	together, below := 0, 0
	for _, sum := range got {
		together += sum
	}
	for i := range groups {
		below += i
	}
	if together != len(h1s)*below {
		t.Fatalf("Far(%d; %v): %v, together %d, not %d times %d", groups, h1s, got, together, len(h1s), below)
	}
}

// P8.5, P8.6: of none, each one, the same several times, and many.
func TestFar(t *testing.T) {
	for _, groups := range sizes {
		all := hashes(groups)
		holdFar(t, groups, nil)
		holdFar(t, groups, []uint64{})
		holdFar(t, groups, all)
		for at, h1 := range all {
			holdFar(t, groups, []uint64{h1})
			holdFar(t, groups, []uint64{h1, h1, h1})
			holdFar(t, groups, []uint64{h1, h1 + uint64(groups), all[0], h1})
			holdFar(t, groups, all[at:min(at+5, len(all))])
		}
	}
}

// P8.5: of one hash it is where each group stands.
func TestFarOfOneHash(t *testing.T) {
	for _, groups := range sizes {
		for _, h1 := range hashes(groups) {
			got, e := Far(groups, h1)
			if len(got) != groups || e != api.OK {
				t.Fatalf("Far(%d; %d): %v, %d", groups, h1, got, e)
			}
			for group, sum := range got {
				if want, _ := Place(groups, h1, group); sum != want {
					t.Fatalf("Far(%d; %d): %v, of %d not %d", groups, h1, got, group, want)
				}
			}
		}
	}
}

// P8.5, R5: in whatever order hashes come, the same is told; and of two rows of hashes together what is told of each.
func TestFarAddsUp(t *testing.T) {
	for _, groups := range sizes {
		all := hashes(groups)
		want, _ := Far(groups, all...)
		backward := slices.Clone(all)
		slices.Reverse(backward)
		if got, e := Far(groups, backward...); !slices.Equal(got, want) || e != api.OK {
			t.Fatalf("Far(%d), backward: %v, %d, not %v", groups, got, e, want)
		}
		for cut := range len(all) + 1 {
			one, _ := Far(groups, all[:cut]...)
			other, _ := Far(groups, all[cut:]...)
			for group := range groups {
				if one[group]+other[group] != want[group] {
					t.Fatalf("Far(%d) of %d hashes, and of the others: %v, %v, not %v", groups, cut, one, other, want)
				}
			}
		}
	}
}

// P8.5, R1: very many hashes end, too, and no sum is cut off.
func TestFarOfVeryMany(t *testing.T) {
	const many = 1 << 22
	h1s := slices.Repeat([]uint64{math.MaxUint64}, many) // the row of 63, whose last group is 31
	got, e := Far(64, h1s...)
	if len(got) != 64 || e != api.OK {
		t.Fatalf("Far: %v, %d", got, e)
	}
	for i, group := range rowBy(64, math.MaxUint64) {
		if got[group] != i*many {
			t.Errorf("Far, of %d: %d, not %d", group, got[group], i*many)
		}
	}
	if got[31] != 264241152 {
		t.Errorf("Far, of the last one: %d", got[31])
	}
}

// P8.5, R3: hashes stay as they are, the room behind their end, too, which is not looked at.
func TestHashesStay(t *testing.T) {
	room := []uint64{9, 3, math.MaxUint64, 3, 0, 7, 7, 1}
	was := slices.Clone(room)
	for _, groups := range append([]int{-1, 0, 3, 65}, sizes...) {
		for many := range len(room) + 1 {
			got, e := Far(groups, room[:many]...)
			if !slices.Contains(sizes, groups) {
				continue
			}
			if want := farBy(groups, was[:many]); !slices.Equal(got, want) || e != api.OK {
				t.Errorf("Far(%d; %v): %v, %d, not %v", groups, was[:many], got, e, want)
			}
		}
	}
	if !slices.Equal(room, was) {
		t.Errorf("hashes are %v, not %v", room, was)
	}
}

// P8.5, R3, R5: what is told is new each time, whatever was done with what was told ahead of it, or with the hashes behind it.
func TestToldSumsAreNew(t *testing.T) {
	want := []int{2, 1, 4, 5}
	var told [][]int
	for range 3 {
		h1s := []uint64{0, 5}
		got, e := Far(4, h1s...)
		if !slices.Equal(got, want) || e != api.OK {
			t.Fatalf("Far(4; 0 5): %v, %d", got, e)
		}
		clear(h1s)
		told = append(told, got)
	}
	clear(told[0])
	told[1] = append(told[1], -8)[:1]
	told[1][0] = -9
	if !slices.Equal(told[2], want) {
		t.Errorf("Far, told ahead: %v", told[2])
	}
	if got, _ := Far(4, 0, 5); !slices.Equal(got, want) {
		t.Errorf("Far, told anew: %v", got)
	}
}
