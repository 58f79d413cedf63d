package cells

import (
	"math"
	"slices"
	"testing"

	"honeycomb/api"
)

// byRule does an access as the document says it, by another way than the package's: what came of it, and whether it leaves a mark.
func byRule(cells []uint64, a api.Access) (api.Seen, bool) {
	was := cells[a.At]
	done := true
	switch a.Kind {
	case 2:
		cells[a.At] = a.New
	case 3:
		if done = was == a.Old; done {
			cells[a.At] = a.New
		}
	case 4:
		cells[a.At] += a.New
	}
	return api.Seen{Value: was, Done: done}, done && a.Kind != 1
}

// chance are numbers that come to the same with each run of a test.
type chance uint64

func (c *chance) below(n int) int {
	*c ^= *c << 13
	*c ^= *c >> 7
	*c ^= *c << 17
	return int(uint64(*c) >> 11 % uint64(n))
}

// word is, more often than not, one that stands elsewhere, too: so that swaps find what they expect.
func (c *chance) word() uint64 {
	return [...]uint64{0, 1, 2, 3, 1 << 63, math.MaxUint64, math.MaxUint64 - 1, uint64(c.below(1 << 40))}[c.below(8)]
}

func (c *chance) words(many int) []uint64 {
	l := make([]uint64, many)
	for n := range l {
		l[n] = c.word()
	}
	return l
}

func (c *chance) access(many int) api.Access {
	return api.Access{Who: c.below(8), Kind: 1 + c.below(4), At: c.below(many), Old: c.word(), New: c.word()}
}

func (c *chance) accesses(many, cells int) []api.Access {
	l := make([]api.Access, many)
	for n := range l {
		l[n] = c.access(cells)
	}
	return l
}

// sizes are edges of how many cells there may be, and what lies between.
var sizes = []int{1, 2, 3, 8, 40, 8191, 8192}

// bad are accesses of two cells that can't be made, and why.
var bad = []struct {
	a    api.Access
	want api.Errno
}{
	{api.Access{}, api.ErrAccess},
	{api.Access{Kind: 0, At: 1}, api.ErrAccess},
	{api.Access{Kind: 5, At: 1}, api.ErrAccess},
	{api.Access{Kind: -1, At: 1}, api.ErrAccess},
	{api.Access{Kind: math.MinInt}, api.ErrAccess},
	{api.Access{Kind: math.MaxInt}, api.ErrAccess},
	{api.Access{Who: 8, Kind: 1}, api.ErrAccess},
	{api.Access{Who: -1, Kind: 1}, api.ErrAccess},
	{api.Access{Who: 8, Kind: 2, New: 9}, api.ErrAccess},
	{api.Access{Who: -1, Kind: 3, Old: 5, New: 9}, api.ErrAccess},
	{api.Access{Who: math.MinInt, Kind: 4, New: 1}, api.ErrAccess},
	{api.Access{Who: math.MaxInt, Kind: 4, New: 1}, api.ErrAccess},
	{api.Access{Kind: 1, At: 2}, api.ErrArg},
	{api.Access{Kind: 2, At: -1, New: 9}, api.ErrArg},
	{api.Access{Who: 7, Kind: 3, At: 8192}, api.ErrArg},
	{api.Access{Kind: 4, At: math.MinInt}, api.ErrArg},
	{api.Access{Kind: 4, At: math.MaxInt}, api.ErrArg},
	// where several apply, the kind and who come ahead of the cell
	{api.Access{Kind: 0, At: 2}, api.ErrAccess},
	{api.Access{Kind: 5, At: -1}, api.ErrAccess},
	{api.Access{Who: 8, Kind: 1, At: 2}, api.ErrAccess},
	{api.Access{Who: -1, Kind: 4, At: -1}, api.ErrAccess},
}

// noRows are rows of words that are no cells.
func noRows() [][]uint64 {
	return [][]uint64{nil, {}, make([]uint64, 8193), make([]uint64, 20000), make([]uint64, 0, 8)}
}

// P2.1
func TestDo(t *testing.T) {
	for _, c := range []struct {
		words []uint64
		a     api.Access
		cells []uint64
		seen  api.Seen
	}{
		{[]uint64{5, 6}, api.Access{Kind: api.CeSwap, Old: 5, New: 7}, []uint64{7, 6}, api.Seen{Value: 5, Done: true}},
		{[]uint64{5, 6}, api.Access{Kind: api.CeSwap, Old: 6, New: 7}, []uint64{5, 6}, api.Seen{Value: 5}},
		{[]uint64{5, 6}, api.Access{Kind: api.CeSwap, At: 1, Old: 5, New: 7}, []uint64{5, 6}, api.Seen{Value: 6}},
		{[]uint64{5, 6}, api.Access{Kind: api.CeSwap, Old: 5, New: 5}, []uint64{5, 6}, api.Seen{Value: 5, Done: true}},
		{[]uint64{0}, api.Access{Kind: api.CeSwap}, []uint64{0}, api.Seen{Done: true}},
		{[]uint64{0}, api.Access{Kind: api.CeSwap, Old: 1}, []uint64{0}, api.Seen{}},
		{[]uint64{5, 6}, api.Access{Kind: api.CeAdd, At: 1, New: math.MaxUint64}, []uint64{5, 5}, api.Seen{Value: 6, Done: true}},
		{[]uint64{5, 6}, api.Access{Kind: api.CeAdd, New: 4}, []uint64{9, 6}, api.Seen{Value: 5, Done: true}},
		{[]uint64{5, 6}, api.Access{Kind: api.CeAdd, Old: 1000}, []uint64{5, 6}, api.Seen{Value: 5, Done: true}},
		{[]uint64{1 << 63}, api.Access{Kind: api.CeAdd, New: 1 << 63}, []uint64{0}, api.Seen{Value: 1 << 63, Done: true}},
		{[]uint64{math.MaxUint64}, api.Access{Kind: api.CeAdd, New: math.MaxUint64}, []uint64{math.MaxUint64 - 1}, api.Seen{Value: math.MaxUint64, Done: true}},
		{[]uint64{5, 6}, api.Access{Kind: api.CeLoad, At: 1}, []uint64{5, 6}, api.Seen{Value: 6, Done: true}},
		{[]uint64{5, 6}, api.Access{Kind: api.CeLoad, Old: 6, New: 9}, []uint64{5, 6}, api.Seen{Value: 5, Done: true}},
		{[]uint64{5, 6}, api.Access{Kind: api.CeStore, New: 9}, []uint64{9, 6}, api.Seen{Value: 5, Done: true}},
		{[]uint64{5, 6}, api.Access{Kind: api.CeStore, Old: 77, New: 9}, []uint64{9, 6}, api.Seen{Value: 5, Done: true}},
		{[]uint64{5, 6}, api.Access{Kind: api.CeStore, At: 1}, []uint64{5, 0}, api.Seen{Value: 6, Done: true}},
		{[]uint64{math.MaxUint64}, api.Access{Who: 7, Kind: api.CeStore, New: 1}, []uint64{1}, api.Seen{Value: math.MaxUint64, Done: true}},
	} {
		cells, seen, e := Do(c.words, c.a)
		if !slices.Equal(cells, c.cells) || seen != c.seen || e != api.OK {
			t.Errorf("Do(%v, %+v): %v, %+v, %d, not %v, %+v", c.words, c.a, cells, seen, e, c.cells, c.seen)
		}
	}
}

// P2.1: the first and the last cell, of as few and as many as there may be, by each who there is.
func TestDoAtEdges(t *testing.T) {
	c := chance(1)
	for _, many := range sizes {
		for _, at := range []int{0, many / 2, many - 1} {
			for who := range 8 {
				for kind := 1; kind <= 4; kind++ {
					words := c.words(many)
					a := api.Access{Who: who, Kind: kind, At: at, Old: c.word(), New: c.word()}
					want := slices.Clone(words)
					came, _ := byRule(want, a)
					cells, seen, e := Do(words, a)
					if !slices.Equal(cells, want) || seen != came || e != api.OK {
						t.Fatalf("Do of %d cells, %+v, that holds %d: %+v, %d, not %+v", many, a, words[at], seen, e, came)
					}
				}
			}
		}
	}
}

// P2.1: what is no access can't be made of the most cells, either.
func TestDoOfNoCell(t *testing.T) {
	for _, many := range sizes {
		for _, at := range []int{-1, many, many + 1, 8193, math.MinInt, math.MaxInt} {
			for kind := 1; kind <= 4; kind++ {
				cells, seen, e := Do(make([]uint64, many), api.Access{Kind: kind, At: at})
				if cells != nil || seen != (api.Seen{}) || e != api.ErrArg {
					t.Errorf("Do of %d cells, of kind %d, at %d: %v, %+v, %d, not ErrArg", many, kind, at, cells, seen, e)
				}
			}
		}
	}
}

// P2.1, R2
func TestDoOfWhatCantBe(t *testing.T) {
	for _, c := range bad {
		cells, seen, e := Do([]uint64{5, 6}, c.a)
		if cells != nil || seen != (api.Seen{}) || e != c.want {
			t.Errorf("Do(%+v): %v, %+v, %d, not %d", c.a, cells, seen, e, c.want)
		}
		for _, words := range noRows() {
			if cells, seen, e := Do(words, c.a); cells != nil || seen != (api.Seen{}) || e != api.ErrCells {
				t.Errorf("Do(%+v) of %d words: %+v, %d, not ErrCells", c.a, len(words), seen, e)
			}
		}
	}
	for _, words := range noRows() {
		if cells, seen, e := Do(words, api.Access{Kind: api.CeLoad}); cells != nil || seen != (api.Seen{}) || e != api.ErrCells {
			t.Errorf("Do of %d words: %+v, %d, not ErrCells", len(words), seen, e)
		}
	}
}

// P2.1, R3: the words stay as they are, with the room behind them; what is answered shares nothing with them.
func TestDoLeavesItsWords(t *testing.T) {
	for kind := 1; kind <= 4; kind++ {
		for at := range 2 {
			room := []uint64{5, 6, 77, 88}
			cells, _, e := Do(room[:2], api.Access{Kind: kind, At: at, Old: room[at], New: 9})
			if e != api.OK || len(cells) != 2 {
				t.Fatalf("Do of kind %d: %v, %d", kind, cells, e)
			}
			cells[0], cells[1] = 99, 99
			_ = append(cells, 99)
			if !slices.Equal(room, []uint64{5, 6, 77, 88}) {
				t.Errorf("Do of kind %d changed its words: %v", kind, room)
			}
		}
	}
}

// P2.2
func TestRun(t *testing.T) {
	cells, seen, marks, e := Run([]uint64{5, 6},
		api.Access{Kind: api.CeStore, New: 9}, api.Access{Kind: api.CeLoad}, api.Access{Kind: api.CeAdd, New: 1})
	if !slices.Equal(cells, []uint64{10, 6}) || e != api.OK {
		t.Errorf("cells: %v, %d", cells, e)
	}
	if !slices.Equal(seen, []api.Seen{{Value: 5, Done: true}, {Value: 9, Done: true}, {Value: 9, Done: true}}) {
		t.Errorf("seen: %v", seen)
	}
	if !slices.Equal(marks, []api.Mark{{By: 0, At: 0, Was: 5, Is: 9}, {By: 2, At: 0, Was: 9, Is: 10}}) {
		t.Errorf("marks: %v", marks)
	}
}

// P2.2: which accesses leave a mark, and which one.
func TestMarks(t *testing.T) {
	for _, c := range []struct {
		a    api.Access
		want []api.Mark
	}{
		{api.Access{Kind: api.CeLoad, At: 1, New: 9}, nil},
		{api.Access{Kind: api.CeStore, At: 1, New: 9}, []api.Mark{{By: 1, At: 1, Was: 6, Is: 9}}},
		{api.Access{Kind: api.CeStore, At: 1, New: 6}, []api.Mark{{By: 1, At: 1, Was: 6, Is: 6}}},
		{api.Access{Kind: api.CeSwap, At: 1, Old: 6, New: 9}, []api.Mark{{By: 1, At: 1, Was: 6, Is: 9}}},
		{api.Access{Kind: api.CeSwap, At: 1, Old: 6, New: 6}, []api.Mark{{By: 1, At: 1, Was: 6, Is: 6}}},
		{api.Access{Kind: api.CeSwap, At: 1, Old: 5, New: 9}, nil},
		{api.Access{Kind: api.CeSwap, At: 1, Old: 9, New: 6}, nil},
		{api.Access{Kind: api.CeAdd, At: 1, New: 9}, []api.Mark{{By: 1, At: 1, Was: 6, Is: 15}}},
		{api.Access{Kind: api.CeAdd, At: 1}, []api.Mark{{By: 1, At: 1, Was: 6, Is: 6}}},
		{api.Access{Who: 7, Kind: api.CeAdd, At: 1, New: math.MaxUint64}, []api.Mark{{By: 1, At: 1, Was: 6, Is: 5}}},
		{api.Access{Kind: api.CeAdd, New: math.MaxUint64 - 4}, []api.Mark{{By: 1, At: 0, Was: 5, Is: 0}}},
	} {
		_, _, marks, e := Run([]uint64{5, 6}, api.Access{Kind: api.CeLoad}, c.a)
		if !slices.Equal(marks, c.want) || e != api.OK {
			t.Errorf("Run(load, %+v): %+v, %d, not %+v", c.a, marks, e, c.want)
		}
	}
}

// P2.2: of no access the cells are as they were, and nothing else is told.
func TestRunOfNone(t *testing.T) {
	for _, many := range sizes {
		c := chance(many)
		words := c.words(many)
		cells, seen, marks, e := Run(words)
		if !slices.Equal(cells, words) || len(seen) != 0 || len(marks) != 0 || e != api.OK {
			t.Errorf("Run of %d cells: %v, %v, %d", many, seen, marks, e)
		}
		cells[0]++
		if cells[0] == words[0] {
			t.Errorf("Run of %d cells told the words themselves", many)
		}
	}
	for _, words := range noRows() {
		if cells, seen, marks, e := Run(words); cells != nil || seen != nil || marks != nil || e != api.ErrCells {
			t.Errorf("Run of %d words: %d, not ErrCells", len(words), e)
		}
	}
}

// P2.2: Do of each, one behind the other.
func TestRunIsDoOfEach(t *testing.T) {
	c := chance(3)
	for range 400 {
		many := 1 + c.below(6)
		words := c.words(many)
		l := c.accesses(c.below(40), many)
		want := slices.Clone(words)
		one := slices.Clone(words)
		cells, seen, marks, e := Run(words, l...)
		if e != api.OK || len(seen) != len(l) {
			t.Fatalf("Run(%v, %+v): %d told, %d", words, l, len(seen), e)
		}
		left := marks
		for by, a := range l {
			was := want[a.At]
			came, mark := byRule(want, a)
			next, alike, e := Do(one, a)
			if one = next; seen[by] != came || alike != came || e != api.OK || !slices.Equal(one, want) {
				t.Fatalf("access %d of %v, %+v: %+v, Do %+v, %d, not %+v", by, words, l, seen[by], alike, e, came)
			}
			if !mark {
				continue
			}
			if len(left) == 0 || left[0] != (api.Mark{By: by, At: a.At, Was: was, Is: want[a.At]}) {
				t.Fatalf("marks of %v, %+v: %+v", words, l, marks)
			}
			left = left[1:]
		}
		if len(left) != 0 || !slices.Equal(cells, want) {
			t.Fatalf("Run(%v, %+v): %v, not %v; marks too many: %+v", words, l, cells, want, left)
		}
	}
}

// P2.2, R2: the error of the first access that has one, wherever it stands.
func TestRunOfWhatCantBe(t *testing.T) {
	good := api.Access{Who: 7, Kind: api.CeStore, At: 1, New: 9}
	for _, c := range bad {
		for _, l := range [][]api.Access{{c.a}, {good, c.a}, {c.a, good}, {good, good, c.a, good}} {
			if cells, seen, marks, e := Run([]uint64{5, 6}, l...); cells != nil || seen != nil || marks != nil || e != c.want {
				t.Errorf("Run(%+v): %v, %v, %v, %d, not %d", l, cells, seen, marks, e, c.want)
			}
			for _, words := range noRows() {
				if cells, seen, marks, e := Run(words, l...); cells != nil || seen != nil || marks != nil || e != api.ErrCells {
					t.Errorf("Run(%+v) of %d words: %d, not ErrCells", l, len(words), e)
				}
			}
		}
		for _, d := range bad {
			if _, _, _, e := Run([]uint64{5, 6}, good, c.a, d.a); e != c.want {
				t.Errorf("Run of %+v ahead of %+v: %d, not %d", c.a, d.a, e, c.want)
			}
		}
	}
}

// P2.2, R3
func TestRunLeavesItsWords(t *testing.T) {
	room := []uint64{5, 6, 77}
	l := []api.Access{{Kind: api.CeStore, At: 1, New: 9}, {Kind: api.CeAdd, New: 9}, {Kind: api.CeLoad, At: 5}}
	want := slices.Clone(l)
	for range 2 { // what one call tells is not what the other does
		cells, seen, marks, e := Run(room[:2], l[:2]...)
		if e != api.OK || !slices.Equal(cells, []uint64{14, 9}) || len(seen) != 2 || len(marks) != 2 {
			t.Fatalf("Run: %v, %v, %v, %d", cells, seen, marks, e)
		}
		cells[0], seen[0], marks[0] = 99, api.Seen{}, api.Mark{}
		_ = append(cells, 99)
	}
	if !slices.Equal(room, []uint64{5, 6, 77}) || !slices.Equal(l, want) {
		t.Errorf("Run changed what was handed in: %v, %+v", room, l)
	}
}

// P2.3
func TestBack(t *testing.T) {
	for _, c := range []struct {
		words []uint64
		marks []api.Mark
		want  []uint64
	}{
		{[]uint64{10, 6}, []api.Mark{{By: 0, At: 0, Was: 5, Is: 9}, {By: 2, At: 0, Was: 9, Is: 10}}, []uint64{5, 6}},
		{[]uint64{10, 6}, nil, []uint64{10, 6}},
		{[]uint64{10, 6}, []api.Mark{}, []uint64{10, 6}},
		{[]uint64{10, 6}, []api.Mark{{At: 1, Was: 6, Is: 6}}, []uint64{10, 6}},
		{[]uint64{10, 6}, []api.Mark{{At: 1, Was: 0, Is: 6}, {At: 0, Was: math.MaxUint64, Is: 10}}, []uint64{math.MaxUint64, 0}},
		{[]uint64{0}, []api.Mark{{By: -7, Was: 3, Is: 4}, {By: 900, Was: 4, Is: 0}}, []uint64{3}}, // whose number says nothing here
		{[]uint64{0}, []api.Mark{{}}, []uint64{0}},
	} {
		if cells, e := Back(c.words, c.marks); !slices.Equal(cells, c.want) || e != api.OK {
			t.Errorf("Back(%v, %+v): %v, %d, not %v", c.words, c.marks, cells, e, c.want)
		}
	}
}

// P2.3: the first and the last cell, of as few and as many as there may be.
func TestBackAtEdges(t *testing.T) {
	for _, many := range sizes {
		words := make([]uint64, many)
		words[0], words[many-1] = 4, 8
		marks := []api.Mark{{At: 0, Was: 3, Is: words[0]}}
		want := slices.Clone(words)
		want[0] = 3
		if many > 1 {
			marks = append(marks, api.Mark{At: many - 1, Was: 7, Is: 8})
			want[many-1] = 7
		}
		if cells, e := Back(words, marks); !slices.Equal(cells, want) || e != api.OK {
			t.Errorf("Back of %d cells: %d", many, e)
		}
		for _, at := range []int{-1, many, math.MinInt, math.MaxInt} {
			if cells, e := Back(words, []api.Mark{{At: at}}); cells != nil || e != api.ErrArg {
				t.Errorf("Back of %d cells, at %d: %v, %d, not ErrArg", many, at, cells, e)
			}
		}
	}
}

// P2.3, R2
func TestBackOfWhatCantBe(t *testing.T) {
	for _, marks := range [][]api.Mark{
		{{At: 0, Was: 5, Is: 11}},
		{{At: 1, Was: 5, Is: 10}},
		{{At: 0, Was: 10, Is: 5}},
		{{At: 0, Was: 9, Is: 10}, {At: 0, Was: 5, Is: 9}},   // the wrong way round
		{{At: 0, Was: 5, Is: 8}, {At: 0, Was: 9, Is: 10}},   // the first one is wrong
		{{At: 0, Was: 5, Is: 10}, {At: 0, Was: 5, Is: 10}},  // twice
		{{At: 2, Was: 5, Is: 10}, {At: 0, Was: 5, Is: 10}},  // the first one is of no cell
		{{At: 0, Was: 5, Is: 10}, {At: -1, Was: 5, Is: 10}}, // the last one is
		{{At: 0, Was: 5, Is: 10}, {At: 2}},
	} {
		if cells, e := Back([]uint64{10, 6}, marks); cells != nil || e != api.ErrArg {
			t.Errorf("Back(%+v): %v, %d, not ErrArg", marks, cells, e)
		}
		for _, words := range noRows() {
			if cells, e := Back(words, marks); cells != nil || e != api.ErrCells {
				t.Errorf("Back(%+v) of %d words: %v, %d, not ErrCells", marks, len(words), cells, e)
			}
		}
	}
	for _, words := range noRows() {
		if cells, e := Back(words, nil); cells != nil || e != api.ErrCells {
			t.Errorf("Back of %d words: %v, %d, not ErrCells", len(words), cells, e)
		}
	}
}

// P2.3, R3
func TestBackLeavesItsWords(t *testing.T) {
	room := []uint64{10, 6, 77}
	marks := []api.Mark{{At: 0, Was: 5, Is: 10}, {At: 1, Was: 4, Is: 6}, {At: 9}}
	want := slices.Clone(marks)
	cells, e := Back(room[:2], marks[:2])
	if !slices.Equal(cells, []uint64{5, 4}) || e != api.OK {
		t.Fatalf("Back: %v, %d", cells, e)
	}
	_ = append(cells, 99)
	same, _ := Back(room[:2], nil)
	same[0] = 99
	_, e = Back(room[:2], append([]api.Mark{{At: 0, Was: 1, Is: 2}}, marks[:2]...)) // which goes wrong at the last one that is taken back
	if e != api.ErrArg || !slices.Equal(room, []uint64{10, 6, 77}) || !slices.Equal(marks, want) {
		t.Errorf("Back changed what was handed in: %v, %+v, %d", room, marks, e)
	}
}

// P2.4
func TestLastAndHeld(t *testing.T) {
	marks := []api.Mark{{By: 0, At: 0, Was: 5, Is: 9}, {By: 2, At: 0, Was: 9, Is: 10}}
	more := []api.Mark{
		{By: 1, At: 3, Was: 1, Is: 1}, {By: 2, At: 8191, Was: 0, Is: 7}, {By: 5, At: 3, Was: 1, Is: 0},
		{By: 6, At: 0, Was: math.MaxUint64, Is: 4}, {By: 9, At: 3, Was: 0, Is: 0}, {By: 11, At: 8191, Was: 7, Is: 0},
	}
	for _, c := range []struct {
		marks []api.Mark
		at    int
		last  int
		ok    bool
		held  []uint64
	}{
		{marks, 0, 2, true, []uint64{5, 9, 10}},
		{marks, 1, 0, false, nil},
		{marks, -1, 0, false, nil},
		{marks[:1], 0, 0, true, []uint64{5, 9}},
		{nil, 0, 0, false, nil},
		{[]api.Mark{}, 0, 0, false, nil},
		{more, 3, 9, true, []uint64{1, 1, 0, 0}},
		{more, 8191, 11, true, []uint64{0, 7, 0}},
		{more, 0, 6, true, []uint64{math.MaxUint64, 4}},
		{more, 1, 0, false, nil},
		{more, 8192, 0, false, nil},
		{more, -1, 0, false, nil},
		{more, math.MinInt, 0, false, nil},
		{more, math.MaxInt, 0, false, nil},
		{more[:4], 3, 5, true, []uint64{1, 1, 0}},
		{[]api.Mark{{By: 3, At: 2}}, 2, 3, true, []uint64{0, 0}},
	} {
		if by, ok := Last(c.marks, c.at); by != c.last || ok != c.ok {
			t.Errorf("Last(%+v, %d): %d, %t, not %d, %t", c.marks, c.at, by, ok, c.last, c.ok)
		}
		if held := Held(c.marks, c.at); !slices.Equal(held, c.held) {
			t.Errorf("Held(%+v, %d): %v, not %v", c.marks, c.at, held, c.held)
		}
	}
}

// P2.4: of marks that were left by a run, cell by cell.
func TestLastAndHeldOfRuns(t *testing.T) {
	c := chance(4)
	for range 200 {
		many := 1 + c.below(5)
		words := c.words(many)
		l := c.accesses(c.below(30), many)
		_, _, marks, _ := Run(words, l...)
		kept := slices.Clone(marks)
		for at := range many {
			cells := slices.Clone(words)
			last, ok := 0, false
			var held []uint64
			for by, a := range l {
				was := cells[a.At]
				if _, mark := byRule(cells, a); !mark || a.At != at {
					continue
				}
				if last, ok = by, true; held == nil {
					held = []uint64{was}
				}
				held = append(held, cells[at])
			}
			if by, is := Last(marks, at); by != last || is != ok {
				t.Fatalf("Last(%+v, %d): %d, %t, not %d, %t", marks, at, by, is, last, ok)
			}
			if got := Held(marks, at); !slices.Equal(got, held) {
				t.Fatalf("Held(%+v, %d): %v, not %v", marks, at, got, held)
			}
		}
		if !slices.Equal(marks, kept) {
			t.Fatalf("the marks were changed: %+v, %+v", kept, marks)
		}
	}
}

// P2.6: what is stored is loaded, as long as nobody stores anything else there.
func TestWhatIsStoredIsLoaded(t *testing.T) {
	c := chance(5)
	for _, many := range sizes {
		for range 30 {
			at, w := c.below(many), c.word()
			l := []api.Access{{Who: 1, Kind: api.CeStore, At: at, New: w}}
			for range c.below(20) {
				a := c.access(many)
				if a.At == at {
					a.Kind = api.CeLoad
				}
				l = append(l, a)
			}
			l = append(l, api.Access{Who: 2, Kind: api.CeLoad, At: at})
			_, seen, _, e := Run(c.words(many), l...)
			if got := seen[len(seen)-1]; got != (api.Seen{Value: w, Done: true}) || e != api.OK {
				t.Fatalf("%d stored in the cell %d of %d, loaded: %+v, %d", w, at, many, got, e)
			}
		}
	}
}

// P2.6: adds come to the same in whatever order.
func TestAddsInWhateverOrder(t *testing.T) {
	c := chance(6)
	for range 100 {
		many := 1 + c.below(4)
		words := c.words(many)
		l := c.accesses(c.below(20), many)
		for n := range l {
			l[n].Kind = api.CeAdd
		}
		one, _, _, e := Run(words, l...)
		for range 5 {
			for n := range l {
				other := c.below(n + 1)
				l[n], l[other] = l[other], l[n]
			}
			if two, _, _, f := Run(words, l...); !slices.Equal(one, two) || e != api.OK || f != api.OK {
				t.Fatalf("%v: %v, and %v in another order", words, one, two)
			}
		}
	}
}

// P2.6: Run, and Back by its marks, leaves the cells as they were.
func TestRunAndBack(t *testing.T) {
	c := chance(7)
	for n := range 300 {
		many := sizes[n%len(sizes)]
		words := c.words(many)
		cells, _, marks, e := Run(words, c.accesses(c.below(60), many)...)
		if e != api.OK {
			t.Fatalf("Run: %d", e)
		}
		if back, e := Back(cells, marks); !slices.Equal(back, words) || e != api.OK {
			t.Fatalf("Back(%v, %+v): %v, %d, not %v", cells, marks, back, e, words)
		}
	}
}
