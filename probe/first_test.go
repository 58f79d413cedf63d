package probe

import (
	"math"
	"slices"
	"testing"

	"honeycomb/api"
)

// holdFirst holds First against what is tried flag by flag.
func holdFirst(t *testing.T, groups int, h1 uint64, is []bool) {
	t.Helper()
	at, which, want := firstBy(groups, h1, is)
	if i, group, e := First(groups, h1, is...); i != at || group != which || e != want {
		t.Fatalf("First(%d, %d, %v): %d, %d, %d, not %d, %d, %d", groups, h1, is, i, group, e, at, which, want)
	}
}

// P8.4: in numbers; the rows are 0 1; 1 2 0 3; 7 0 2 5 1 6 4 3.
func TestFirstInNumbers(t *testing.T) {
	const all = math.MaxUint64
	for _, c := range []struct {
		groups    int
		h1        uint64
		is        []bool
		at, which int
		e         api.Errno
	}{
		{1, 0, flagsOf(1, 0), 0, 0, api.OK},
		{1, all, flagsOf(1, 0), 0, 0, api.OK},
		{1, 0, flagsOf(1), 0, 0, api.ErrNone},
		{1, 0, nil, 0, 0, api.ErrArg},
		{1, 0, flagsOf(2, 0, 1), 0, 0, api.ErrArg},
		{2, 0, flagsOf(2, 0), 0, 0, api.OK},
		{2, 0, flagsOf(2, 1), 1, 1, api.OK},
		{2, 0, flagsOf(2, 0, 1), 0, 0, api.OK},
		{2, 1, flagsOf(2, 0), 1, 0, api.OK},
		{2, 1, flagsOf(2, 0, 1), 0, 1, api.OK},
		{2, 1, flagsOf(2), 0, 0, api.ErrNone},
		{4, 5, flagsOf(4, 1), 0, 1, api.OK},
		{4, 5, flagsOf(4, 2), 1, 2, api.OK},
		{4, 5, flagsOf(4, 0), 2, 0, api.OK},
		{4, 5, flagsOf(4, 3), 3, 3, api.OK},
		{4, 5, flagsOf(4, 0, 3), 2, 0, api.OK},
		{4, 5, flagsOf(4, 0, 2), 1, 2, api.OK},
		{4, 5, flagsOf(4, 0, 1, 2, 3), 0, 1, api.OK},
		{4, 5, flagsOf(4), 0, 0, api.ErrNone},
		{4, 5, flagsOf(3, 0), 0, 0, api.ErrArg},
		{4, 5, flagsOf(3), 0, 0, api.ErrArg},
		{4, 5, flagsOf(5, 0), 0, 0, api.ErrArg},
		{4, 5, flagsOf(5), 0, 0, api.ErrArg},
		{8, all, flagsOf(8, 3), 7, 3, api.OK},
		{8, all, flagsOf(8, 3, 4), 6, 4, api.OK},
		{8, all, flagsOf(8, 1, 3, 4, 6), 4, 1, api.OK},
		{8, all, flagsOf(8, 0, 1, 2, 3, 4, 5, 6), 1, 0, api.OK},
	} {
		if i, group, e := First(c.groups, c.h1, c.is...); i != c.at || group != c.which || e != c.e {
			t.Errorf("First(%d, %d, %v): %d, %d, %d, not %d, %d, %d", c.groups, c.h1, c.is, i, group, e, c.at, c.which, c.e)
		}
	}
}

// P8.4: of all flags that few groups may have, by each row.
func TestFirstOfFewGroups(t *testing.T) {
	for _, groups := range []int{1, 2, 4, 8} {
		for bits := range 1 << groups {
			is := make([]bool, groups)
			for group := range is {
				is[group] = bits>>group&1 == 1
			}
			for h1 := range uint64(groups) {
				holdFirst(t, groups, h1, is)
				holdFirst(t, groups, -uint64(groups)+h1, is) // the last hash that leaves the same
			}
		}
	}
}

// P8.4: of none, each one alone, each two, all but one, all, and such as chance makes, of many groups.
func TestFirstOfManyGroups(t *testing.T) {
	c := chance(8)
	for _, groups := range []int{16, 32, 64} {
		flags := [][]bool{flagsOf(groups), slices.Repeat([]bool{true}, groups)}
		for group := range groups {
			but := slices.Repeat([]bool{true}, groups)
			but[group] = false
			flags = append(flags, but, flagsOf(groups, group), flagsOf(groups, group, groups-1), flagsOf(groups, 0, group), flagsOf(groups, group, (group+groups/2)%groups))
		}
		for range 50 {
			mixed := make([]bool, groups)
			few := c.word() & c.word() & c.word()
			for group := range mixed {
				mixed[group] = few>>group&1 == 1
			}
			flags = append(flags, mixed)
		}
		for at, is := range flags {
			for _, h1 := range []uint64{0, 1, uint64(groups) - 1, uint64(at), math.MaxUint64, c.word()} {
				holdFirst(t, groups, h1, is)
			}
		}
	}
}

// P8.4: of one flag alone it is where that one's group stands.
func TestFirstOfOneFlag(t *testing.T) {
	for _, groups := range sizes {
		for _, h1 := range hashes(groups) {
			for group := range groups {
				want, _ := Place(groups, h1, group)
				if i, which, e := First(groups, h1, flagsOf(groups, group)...); i != want || which != group || e != api.OK {
					t.Fatalf("First(%d, %d; the flag of %d): %d, %d, %d, not %d", groups, h1, group, i, which, e, want)
				}
			}
		}
	}
}

// P8.4: as many flags as there are not, though there be none that is true, goes ahead of ErrNone.
func TestFirstOfOtherFlags(t *testing.T) {
	for _, groups := range sizes {
		for _, many := range []int{0, 1, groups - 1, groups + 1, 2 * groups, 64, 65, 128, 1 << 16} {
			if many == groups {
				continue
			}
			for _, is := range [][]bool{make([]bool, many), slices.Repeat([]bool{true}, many)} {
				for _, h1 := range []uint64{0, 1, math.MaxUint64} {
					if i, group, e := First(groups, h1, is...); i != 0 || group != 0 || e != api.ErrArg {
						t.Errorf("First(%d, %d) of %d flags: %d, %d, %d, not ErrArg", groups, h1, many, i, group, e)
					}
				}
			}
		}
	}
}

// P8.4, R3: flags stay as they are, the room behind their end, too, which is not looked at.
func TestFlagsStay(t *testing.T) {
	room := []bool{false, false, false, false, true, true, true, true}
	was := slices.Clone(room)
	if i, group, e := First(4, 5, room[:4]...); i != 0 || group != 0 || e != api.ErrNone {
		t.Errorf("First(4, 5) of no flag, with others behind: %d, %d, %d", i, group, e)
	}
	if i, group, e := First(8, 5, room...); i != 0 || group != 5 || e != api.OK {
		t.Errorf("First(8, 5) of the last four: %d, %d, %d", i, group, e)
	}
	if i, group, e := First(4, 5, room[:3]...); i != 0 || group != 0 || e != api.ErrArg {
		t.Errorf("First(4, 5) of three flags: %d, %d, %d", i, group, e)
	}
	if !slices.Equal(room, was) {
		t.Errorf("flags are %v, not %v", room, was)
	}
}
