package script

import (
	"math"
	"slices"
	"testing"

	"honeycomb/api"
)

// example is the chapter's script: one goroutine stores, and asks how many there are.
func example() api.Script {
	return api.Script{
		Goers: 1, Slabs: 2, Seed: 5,
		Lists: [][]api.Call{{{Op: api.OpStore, Key: 7, A: 9}, {Op: api.OpLen}}},
		Picks: []uint64{0, 1},
	}
}

func exampleBytes() []byte { return []byte{1, 2, 5, 2, 2, 7, 9, 7, 2, 0, 1} }

// lens is a list of so many calls.
func lens(many int) []api.Call {
	var l []api.Call
	for range many {
		l = append(l, api.Call{Op: api.OpLen})
	}
	return l
}

// blank is a script of so many goroutines that make no calls.
func blank(goers int) api.Script {
	return api.Script{Goers: goers, Slabs: api.LeastSlab, Lists: make([][]api.Call, goers)}
}

// withCall is a script of which that call is the last one.
func withCall(c api.Call) api.Script {
	s := blank(2)
	s.Lists[1] = []api.Call{{Op: api.OpLoad, Key: 3}, c}
	return s
}

// changed is the chapter's script, but for what is changed in it.
func changed(change func(s *api.Script)) api.Script {
	s := example()
	change(&s)
	return s
}

// named is a script, and what it is an edge of.
type named struct {
	name string
	api.Script
}

// edges are scripts that just may be.
func edges() []named {
	full := blank(8)
	for n := range full.Lists {
		full.Lists[n] = lens(8)
	}
	all := blank(3)
	all.Seed = math.MaxUint64
	all.Slabs = 128
	all.Lists[1] = []api.Call{
		{Op: 1, Key: math.MaxUint64}, {Op: 2, Key: 127, A: 128}, {Op: 3, Key: 300}, {Op: 4, Key: 1, A: 1 << 63, B: 16384},
		{Op: 5, Key: 0, A: 0}, {Op: 6}, {Op: 7}, {Op: 4}, {Op: 2, Key: 8}, {Op: 2, A: 8},
	}
	all.Picks = []uint64{0, 127, 128, 300, math.MaxUint64}
	return []named{
		{"the example", example()},
		{"one goroutine", blank(1)},
		{"8 goroutines", blank(8)},
		{"no lists' room", api.Script{Goers: 2, Slabs: 2, Lists: [][]api.Call{nil, {}}, Picks: []uint64{}}},
		{"2 slabs", changed(func(s *api.Script) { s.Slabs = 2 })},
		{"128 slabs", changed(func(s *api.Script) { s.Slabs = 128 })},
		{"seed 0", changed(func(s *api.Script) { s.Seed = 0 })},
		{"64 calls of one", changed(func(s *api.Script) { s.Lists[0] = lens(64) })},
		{"64 calls of all", full},
		{"no picks", changed(func(s *api.Script) { s.Picks = nil })},
		{"4096 picks", changed(func(s *api.Script) { s.Picks = make([]uint64, 4096) })},
		{"all Ops", all},
	}
}

// outside are scripts that just may not be.
func outside() []named {
	over := blank(8)
	for n := range over.Lists {
		over.Lists[n] = lens(8)
	}
	over.Lists[3] = lens(9)
	late := blank(2)
	late.Lists[0], late.Lists[1] = lens(64), lens(1)
	l := []named{
		{"nothing", api.Script{}},
		{"no goroutine", changed(func(s *api.Script) { s.Goers = 0 })},
		{"no goroutine, no list", blank(0)},
		{"9 goroutines", blank(9)},
		{"less than no goroutine", changed(func(s *api.Script) { s.Goers = -1 })},
		{"least goroutines", changed(func(s *api.Script) { s.Goers = math.MinInt })},
		{"most goroutines", changed(func(s *api.Script) { s.Goers = math.MaxInt })},
		{"1 slab", changed(func(s *api.Script) { s.Slabs = 1 })},
		{"no slab", changed(func(s *api.Script) { s.Slabs = 0 })},
		{"129 slabs", changed(func(s *api.Script) { s.Slabs = 129 })},
		{"less than no slab", changed(func(s *api.Script) { s.Slabs = -2 })},
		{"least slabs", changed(func(s *api.Script) { s.Slabs = math.MinInt })},
		{"most slabs", changed(func(s *api.Script) { s.Slabs = math.MaxInt })},
		{"no list", changed(func(s *api.Script) { s.Lists = nil })},
		{"fewer lists", changed(func(s *api.Script) { s.Goers = 2 })},
		{"more lists", changed(func(s *api.Script) { s.Lists = append(s.Lists, nil) })},
		{"more goroutines' lists", changed(func(s *api.Script) { s.Lists = make([][]api.Call, 8) })},
		{"65 calls of one", changed(func(s *api.Script) { s.Lists[0] = lens(65) })},
		{"65 calls of all", over},
		{"a call behind 64", late},
		{"4097 picks", changed(func(s *api.Script) { s.Picks = make([]uint64, 4097) })},
	}
	for _, c := range noCalls() {
		l = append(l, named{"no call", withCall(c)})
	}
	return l
}

// noCalls are of an Op that is none, or have something else than what they take.
func noCalls() []api.Call {
	return []api.Call{
		{},
		{Op: 0, Key: 1},
		{Op: 8},
		{Op: 8, Key: 1, A: 2, B: 3},
		{Op: -1},
		{Op: math.MinInt},
		{Op: math.MaxInt},
		{Op: 1, Key: 1, A: 1},
		{Op: 1, Key: 1, B: 1},
		{Op: 2, Key: 1, A: 1, B: 1},
		{Op: 2, B: math.MaxUint64},
		{Op: 3, Key: 1, A: 1},
		{Op: 3, Key: 1, B: 1 << 63},
		{Op: 5, Key: 1, A: 1, B: 1},
		{Op: 6, Key: 1},
		{Op: 6, A: 1},
		{Op: 6, B: 1},
		{Op: 7, Key: 1},
		{Op: 7, A: 1},
		{Op: 7, B: 1},
	}
}

// takes says the document's table once more.
func takes(op int) int {
	switch op {
	case 1, 3:
		return 1
	case 2, 5:
		return 2
	case 4:
		return 3
	case 6, 7:
		return 0
	}
	return -1
}

// deep is a script that shares no memory with another one.
func deep(s api.Script) api.Script {
	var lists [][]api.Call
	for _, l := range s.Lists {
		lists = append(lists, append([]api.Call{}, l...))
	}
	s.Lists, s.Picks = lists, append([]uint64{}, s.Picks...)
	return s
}

// alike is Same by another way than the package's.
func alike(a, b api.Script) bool {
	if a.Goers != b.Goers || a.Slabs != b.Slabs || a.Seed != b.Seed || len(a.Lists) != len(b.Lists) || len(a.Picks) != len(b.Picks) {
		return false
	}
	for n, l := range a.Lists {
		if len(l) != len(b.Lists[n]) {
			return false
		}
		for i, c := range l {
			if c != b.Lists[n][i] {
				return false
			}
		}
	}
	for n, pick := range a.Picks {
		if pick != b.Picks[n] {
			return false
		}
	}
	return true
}

// P3.1
func TestTakes(t *testing.T) {
	for _, op := range []int{-1, -2, -8, 8, 9, 64, 100, math.MinInt, math.MaxInt} {
		if got := Takes(op); got != -1 {
			t.Errorf("Takes(%d): %d, not -1", op, got)
		}
	}
	for op, want := range []int{-1, 1, 2, 1, 3, 2, 0, 0, -1} {
		if got := Takes(op); got != want {
			t.Errorf("Takes(%d): %d, not %d", op, got, want)
		}
	}
}

// P3.1
func TestCheck(t *testing.T) {
	for _, c := range edges() {
		if e := Check(c.Script); e != api.OK {
			t.Errorf("Check of %s: %d", c.name, e)
		}
	}
	for _, c := range outside() {
		if e := Check(c.Script); e != api.ErrScript {
			t.Errorf("Check of %s, %v: %d, not ErrScript", c.name, c.Lists, e)
		}
	}
}

// P3.1: each Op with each set of what it may have.
func TestCheckOfEachCall(t *testing.T) {
	for op := -2; op <= 10; op++ {
		for has := range 8 {
			c := api.Call{Op: op, Key: uint64(has & 1), A: uint64(has & 2), B: uint64(has&4) << 40}
			want := api.ErrScript
			if many := takes(op); many >= 0 && has>>many == 0 {
				want = api.OK
			}
			if e := Check(withCall(c)); e != want {
				t.Errorf("Check of a script with %+v: %d, not %d", c, e, want)
			}
		}
	}
}

// P3.1
func TestSame(t *testing.T) {
	l := append(edges(), outside()...)
	for _, a := range l {
		for _, b := range l {
			if got, want := Same(a.Script, deep(b.Script)), alike(a.Script, b.Script); got != want {
				t.Errorf("Same of %s, %v, and %s, %v: %t", a.name, a.Lists, b.name, b.Lists, got)
			}
		}
	}
}

// P3.1: whatever part is another one, they are not the same.
func TestSameOfEachPart(t *testing.T) {
	for n, change := range []func(s *api.Script){
		func(s *api.Script) { s.Goers++ },
		func(s *api.Script) { s.Slabs++ },
		func(s *api.Script) { s.Seed++ },
		func(s *api.Script) { s.Seed += 1 << 63 },
		func(s *api.Script) { s.Lists = nil },
		func(s *api.Script) { s.Lists = append(s.Lists, nil) },
		func(s *api.Script) { s.Lists[0] = nil },
		func(s *api.Script) { s.Lists[0] = s.Lists[0][:1] },
		func(s *api.Script) { s.Lists[0] = append(s.Lists[0], api.Call{Op: api.OpLen}) },
		func(s *api.Script) { slices.Reverse(s.Lists[0]) },
		func(s *api.Script) { s.Lists[0][1].Op = api.OpRange },
		func(s *api.Script) { s.Lists[0][0].Key++ },
		func(s *api.Script) { s.Lists[0][0].A++ },
		func(s *api.Script) { s.Lists[0][0].B++ },
		func(s *api.Script) { s.Picks = nil },
		func(s *api.Script) { s.Picks = s.Picks[:1] },
		func(s *api.Script) { s.Picks = append(s.Picks, 0) },
		func(s *api.Script) { s.Picks[1]++ },
		func(s *api.Script) { s.Picks[0], s.Picks[1] = s.Picks[1], s.Picks[0] },
	} {
		other := changed(change)
		if Same(example(), other) || Same(other, example()) {
			t.Errorf("change %d: the same as %+v", n, other)
		}
		if !Same(other, deep(other)) {
			t.Errorf("change %d: not the same as itself: %+v", n, other)
		}
	}
}

// P3.1, R3: nil and empty are one.
func TestSameOfNilAndEmpty(t *testing.T) {
	for _, p := range [][2]api.Script{
		{{Lists: nil, Picks: nil}, {Lists: [][]api.Call{}, Picks: []uint64{}}},
		{{Lists: [][]api.Call{nil, {}}}, {Lists: [][]api.Call{{}, nil}}},
		{{Picks: make([]uint64, 0, 9)}, {}},
	} {
		if !Same(p[0], p[1]) || !Same(p[1], p[0]) {
			t.Errorf("%+v and %+v are not the same", p[0], p[1])
		}
	}
	if Same(api.Script{Lists: [][]api.Call{nil}}, api.Script{}) {
		t.Error("one empty list is the same as none")
	}
}

// P3.4
func TestKeys(t *testing.T) {
	for _, c := range []struct {
		lists [][]api.Call
		want  []uint64
	}{
		{nil, nil},
		{[][]api.Call{nil, {}}, nil},
		{[][]api.Call{{{Op: 6}, {Op: 7}}}, nil},
		{[][]api.Call{{{Op: 1}}}, []uint64{0}},
		{[][]api.Call{{{Op: 2, Key: 7, A: 9}, {Op: 7}}}, []uint64{7}},
		{[][]api.Call{{{Op: 1, Key: 5}, {Op: 2, Key: 4}, {Op: 3, Key: 3}, {Op: 4, Key: 2}, {Op: 5, Key: 1}}}, []uint64{1, 2, 3, 4, 5}},
		{[][]api.Call{{{Op: 1, Key: 5}, {Op: 2, Key: 5}}, {{Op: 3, Key: 5}}, {{Op: 4, Key: 6, A: 5, B: 4}, {Op: 5, Key: 5, A: 8}}}, []uint64{5, 6}},
		{[][]api.Call{{{Op: 1, Key: math.MaxUint64}}, {{Op: 1, Key: 1 << 63}}, {{Op: 3, Key: 0}, {Op: 3, Key: 1<<63 - 1}}}, []uint64{0, 1<<63 - 1, 1 << 63, math.MaxUint64}},
		{[][]api.Call{{{Op: 0, Key: 1}, {Op: 8, Key: 2}, {Op: -1, Key: 3}, {Op: 6, Key: 4}, {Op: 7, Key: 5}, {Op: math.MinInt, Key: 6}, {Op: math.MaxInt, Key: 7}}}, nil},
		{[][]api.Call{{{Op: 1, Key: 9, A: 2, B: 3}}}, []uint64{9}},
	} {
		if got := Keys(api.Script{Goers: len(c.lists), Slabs: 2, Lists: c.lists, Picks: []uint64{77}}); !slices.Equal(got, c.want) {
			t.Errorf("Keys of %v: %v, not %v", c.lists, got, c.want)
		}
	}
}

// P3.4: of 64 keys none is left out, or told twice, whichever way they come.
func TestKeysOfMany(t *testing.T) {
	s := blank(8)
	var want []uint64
	for n := range 64 {
		key := uint64(n) * 0x9e3779b97f4a7c15
		s.Lists[n%8] = append(s.Lists[n%8], api.Call{Op: 1 + n%5, Key: key}, api.Call{Op: 1, Key: key})
		want = append(want, key)
	}
	slices.Sort(want)
	for range 20 {
		if got := Keys(s); !slices.Equal(got, want) {
			t.Fatalf("Keys: %v, not %v", got, want)
		}
	}
}

// cutter is a script of three goroutines, five picks.
func cutter() api.Script {
	return api.Script{
		Goers: 3, Slabs: 9, Seed: 77,
		Lists: [][]api.Call{{{Op: 1, Key: 1}}, {{Op: 2, Key: 2, A: 3}, {Op: 6}}, {{Op: 7}}},
		Picks: []uint64{5, 4, 3, 2, 1},
	}
}

// P3.4
func TestCutOfPicks(t *testing.T) {
	for _, c := range []struct{ picks, want int }{
		{0, 0}, {1, 1}, {2, 2}, {4, 4}, {5, 5}, {6, 5}, {4097, 5}, {math.MaxInt, 5}, {-1, 0}, {-5, 0}, {math.MinInt, 0},
	} {
		s := cutter()
		want := cutter()
		want.Picks = want.Picks[:c.want]
		if got := Cut(s, c.picks, 0, 1, 2); !alike(got, want) {
			t.Errorf("Cut(%d): %+v, not %+v", c.picks, got, want)
		}
	}
}

// P3.4
func TestCutOfGoroutines(t *testing.T) {
	for _, c := range []struct {
		goers []int
		want  [3]bool
	}{
		{nil, [3]bool{}},
		{[]int{}, [3]bool{}},
		{[]int{0}, [3]bool{true}},
		{[]int{1}, [3]bool{1: true}},
		{[]int{2}, [3]bool{2: true}},
		{[]int{2, 0}, [3]bool{0: true, 2: true}},
		{[]int{2, 1, 0}, [3]bool{true, true, true}},
		{[]int{1, 1}, [3]bool{1: true}},
		{[]int{1, 0, 1, 0, 0}, [3]bool{true, true, false}},
		{[]int{3}, [3]bool{}},
		{[]int{-1}, [3]bool{}},
		{[]int{8, 9, -1, math.MinInt, math.MaxInt}, [3]bool{}},
		{[]int{-1, 3, 1, 4}, [3]bool{1: true}},
	} {
		want := cutter()
		for n, kept := range c.want {
			if !kept {
				want.Lists[n] = nil
			}
		}
		if got := Cut(cutter(), 5, c.goers...); !alike(got, want) {
			t.Errorf("Cut of %v: %+v, not %+v", c.goers, got, want)
		}
	}
}

// P3.4: the chapter's example, and what may not be, which is cut as it stands.
func TestCutOfOthers(t *testing.T) {
	want := example()
	want.Lists[0], want.Picks = nil, []uint64{0}
	if got := Cut(example(), 1); !alike(got, want) {
		t.Errorf("Cut of none: %+v", got)
	}
	if got := Cut(api.Script{}, 7, 0, 1); !alike(got, api.Script{}) {
		t.Errorf("Cut of nothing: %+v", got)
	}
	for _, c := range outside() {
		if got := Cut(c.Script, 5000, 0, 1, 2, 3, 4, 5, 6, 7, 8); !alike(got, c.Script) {
			t.Errorf("Cut of %s, nobody left out: %+v", c.name, got)
		}
		want := deep(c.Script)
		want.Lists, want.Picks = make([][]api.Call, len(c.Lists)), nil
		if got := Cut(c.Script, 0); !alike(got, want) {
			t.Errorf("Cut of %s, all left out: %+v", c.name, got)
		}
	}
}

// P3.4, R3: what is handed in stays as it is, the room behind it, too; what is answered shares nothing with it.
func TestCutSharesNoMemory(t *testing.T) {
	picks := []uint64{5, 4, 3, 2, 1}
	calls := []api.Call{{Op: 1, Key: 1}, {Op: 7}, {Op: 6}}
	lists := [][]api.Call{calls[:2], calls[2:3], calls[:1]}
	goers := []int{0, 1, 9, 2}
	s := api.Script{Goers: 2, Slabs: 2, Lists: lists[:2], Picks: picks[:3]}
	cut := Cut(s, 2, goers[:2]...)
	if !alike(cut, api.Script{Goers: 2, Slabs: 2, Lists: [][]api.Call{{{Op: 1, Key: 1}, {Op: 7}}, {{Op: 6}}}, Picks: []uint64{5, 4}}) {
		t.Fatalf("Cut: %+v", cut)
	}
	cut.Lists[0] = append(cut.Lists[0], api.Call{Op: 2})
	for n := range cut.Lists {
		for i := range cut.Lists[n] {
			cut.Lists[n][i].Key = 99
		}
	}
	cut.Lists = append(cut.Lists, nil)
	cut.Lists[1] = nil
	cut.Picks = append(cut.Picks, 99)
	cut.Picks[0] = 99
	if !slices.Equal(picks, []uint64{5, 4, 3, 2, 1}) || !slices.Equal(calls, []api.Call{{Op: 1, Key: 1}, {Op: 7}, {Op: 6}}) ||
		!slices.Equal(goers, []int{0, 1, 9, 2}) || len(lists[0]) != 2 || len(lists[1]) != 1 || len(lists[2]) != 1 {
		t.Errorf("the script was changed: %v, %v, %v, %v", picks, calls, lists, goers)
	}
}

// R3: what only looks at a script leaves it as it is.
func TestLooksLeaveTheScript(t *testing.T) {
	for _, c := range append(edges(), outside()...) {
		was := deep(c.Script)
		Check(c.Script)
		Same(c.Script, c.Script)
		Keys(c.Script)
		Encode(c.Script)
		Cut(c.Script, 1, 0)
		if !alike(c.Script, was) {
			t.Errorf("%s was changed: %+v", c.name, c.Script)
		}
	}
}
