package mutex

import (
	"math"
	"slices"
	"testing"

	"honeycomb/api"
)

// holds is whether mutexes are those of lines, looked at part by part.
func holds(l []api.Mutex, s lines) bool {
	return slices.EqualFunc(l, s.laid(), func(m, n api.Mutex) bool {
		return m.By == n.By && slices.Equal(m.Queue, n.Queue)
	})
}

// P5.1
func TestNew(t *testing.T) {
	for _, many := range []int{1, 2, 3, 8, 129, 159, 160} {
		l, e := New(many)
		if len(l) != many || e != api.OK {
			t.Fatalf("New(%d): %d, %d", many, len(l), e)
		}
		for which, m := range l {
			if m.By != 0 || len(m.Queue) != 0 {
				t.Errorf("New(%d): %d is %+v", many, which, m)
			}
		}
		if e := Check(l); e != api.OK {
			t.Errorf("Check(New(%d)): %d", many, e)
		}
		l[0].By = 3
		if again, _ := New(many); again[0].By != 0 {
			t.Errorf("New(%d) told the same memory twice", many)
		}
	}
	for _, many := range []int{math.MinInt, math.MinInt + 1, -160, -2, -1, 0, 161, 162, 1000, 1 << 32, 1<<32 + 1, math.MaxInt} {
		if l, e := New(many); l != nil || e != api.ErrArg {
			t.Errorf("New(%d): %d, %d, not ErrArg", many, len(l), e)
		}
	}
}

// P5.1: what may be, up to its edges.
func TestCheckOfWhatMayBe(t *testing.T) {
	most := make([]api.Mutex, 160)
	for which := range most {
		most[which].By = 1 + which%8
	}
	most[159] = api.Mutex{By: 8, Queue: []int{6, 5, 4, 3, 2, 1, 0}}
	for name, l := range map[string][]api.Mutex{
		"one that nobody has":           {{}},
		"an empty queue":                {{Queue: []int{}}, {By: 1, Queue: []int{}}},
		"the first goroutine has it":    {{By: 1}},
		"the last goroutine has it":     {{By: 8}},
		"the first one waits":           {{By: 8, Queue: []int{0}}},
		"the last one waits":            {{By: 1, Queue: []int{7}}},
		"all others wait":               {{By: 4, Queue: []int{7, 0, 6, 1, 5, 2, 4}}},
		"one has two":                   {{By: 3}, {By: 3}, {By: 3}},
		"one has one, waits for one":    {{By: 3}, {By: 2, Queue: []int{2}}},
		"a ring":                        {{By: 1, Queue: []int{1}}, {By: 2, Queue: []int{0}}},
		"160 that nobody has":           make([]api.Mutex, 160),
		"160 that all have, all others": most,
	} {
		if e := Check(l); e != api.OK {
			t.Errorf("Check of %s: %d", name, e)
		}
	}
	for many := 1; many <= 3; many++ {
		for _, s := range states(many, []int{0, 3, 7}) {
			if e := Check(s.laid()); e != api.OK {
				t.Fatalf("Check(%v): %d", s.laid(), e)
			}
		}
	}
}

// P5.1: what may not be, alone, and beside what may.
func TestCheckOfWhatMayNotBe(t *testing.T) {
	for name, l := range noMutexes() {
		if e := Check(l); e != api.ErrMutex {
			t.Errorf("Check of %s: %d, not ErrMutex", name, e)
		}
		if len(l) == 0 {
			continue
		}
		for _, beside := range [][]api.Mutex{append([]api.Mutex{{By: 5, Queue: []int{}}}, l...), append(slices.Clone(l), api.Mutex{})} {
			if e := Check(beside); e != api.ErrMutex {
				t.Errorf("Check of %s, beside another one: %d, not ErrMutex", name, e)
			}
		}
	}
}

// may is what the document says of mutexes that may be, count by count.
func may(l []api.Mutex) bool {
	places := map[int]int{}
	for _, m := range l {
		if m.By < 0 || m.By > 8 || m.By == 0 && len(m.Queue) != 0 || slices.Contains(m.Queue, m.By-1) {
			return false
		}
		for _, goer := range m.Queue {
			if places[goer]++; places[goer] > 1 || goer < 0 || goer > 7 {
				return false
			}
		}
	}
	return len(l) >= 1 && len(l) <= 160
}

// P5.1: all pairs of mutexes that are made of few numbers, at the edges of what there is.
func TestCheckOfPairs(t *testing.T) {
	var kinds []api.Mutex
	for _, by := range []int{-1, 0, 1, 2, 8, 9} {
		for _, a := range []int{-2, -1, 0, 1, 7, 8} {
			for _, b := range []int{-2, -1, 0, 1, 7, 8} {
				queue := slices.DeleteFunc([]int{a, b}, func(goer int) bool { return goer == -2 }) // -2: nobody stands there
				kinds = append(kinds, api.Mutex{By: by, Queue: queue})
			}
		}
	}
	many := 0
	for _, m := range kinds {
		for _, n := range kinds {
			l := []api.Mutex{m, n}
			e := Check(l)
			if (e == api.OK) != may(l) || e != api.OK && e != api.ErrMutex {
				t.Fatalf("Check(%v): %d", l, e)
			}
			if e == api.OK {
				many++
			}
		}
	}
	if many == 0 || many == len(kinds)*len(kinds) {
		t.Errorf("%d pairs of %d may be", many, len(kinds)*len(kinds))
	}
}

// P5.1: Same is asked of what may not be, too.
func TestSame(t *testing.T) {
	all := [][]api.Mutex{
		nil,
		{{}},
		{{}, {}},
		{{By: 1}},
		{{By: 2}},
		{{By: -1}},
		{{By: 1}, {}},
		{{}, {By: 1}},
		{{By: 1, Queue: []int{1}}},
		{{By: 1, Queue: []int{2}}},
		{{By: 1, Queue: []int{1, 2}}},
		{{By: 1, Queue: []int{2, 1}}},
		{{By: 1, Queue: []int{2, 2}}},
		{{By: 0, Queue: []int{1}}},
		{{By: 1, Queue: []int{1}}, {}},
		{{By: 1}, {By: 2, Queue: []int{1}}},
		{{By: 1}, {By: 3, Queue: []int{1}}},
		{{By: 1}, {By: 3, Queue: []int{0}}},
		make([]api.Mutex, 160),
		make([]api.Mutex, 161),
	}
	for x, a := range all {
		for y, b := range all {
			copied := make([]api.Mutex, len(b)) // other memory, and empty queues in place of none
			for which, m := range b {
				copied[which] = api.Mutex{By: m.By, Queue: append([]int{}, m.Queue...)}
			}
			if got := Same(a, copied); got != (x == y) {
				t.Errorf("Same(%v, %v): %v", a, b, got)
			}
		}
	}
	if !Same(nil, []api.Mutex{}) || !Same([]api.Mutex{}, nil) {
		t.Error("nil and an empty row are not the same")
	}
}

// P5.1: of mutexes that may be no two that are laid otherwise are the same.
func TestSameOfStates(t *testing.T) {
	all := states(2, []int{0, 7})
	for x, a := range all {
		for y, b := range all {
			if got := Same(a.laid(), b.laid()); got != (x == y) {
				t.Fatalf("Same(%v, %v): %v", a, b, got)
			}
		}
	}
}

// P5.2, P5.3, P5.5: the chapter's examples.
func TestExamples(t *testing.T) {
	l, _ := New(3)
	for n, want := range []struct {
		goer int
		has  bool
	}{{0, true}, {2, false}, {1, false}} {
		m, has, e := Ask(l, 1, want.goer)
		if has != want.has || e != api.OK {
			t.Fatalf("Ask %d: %v, %d", n, has, e)
		}
		l = m
	}
	l, next, e := Leave(l, 1, 0)
	if next != 2 || e != api.OK || !Same(l, []api.Mutex{{}, {By: 3, Queue: []int{1}}, {}}) {
		t.Fatalf("Leave: %v, %d, %d", l, next, e)
	}
	if m, has, e := Ask(l, 1, 0); has || e != api.OK || !Same(m, []api.Mutex{{}, {By: 3, Queue: []int{1, 0}}, {}}) {
		t.Errorf("Ask again: %v, %v, %d", m, has, e)
	}
	if m, next, e := Leave(l, 1, 0); m != nil || next != 0 || e != api.ErrNone {
		t.Errorf("Leave again: %v, %d, %d", m, next, e)
	}
	three, _ := New(3)
	l, passed, e := Play(three, api.Deed{Goer: 0, Which: 0}, api.Deed{Goer: 1, Which: 1}, api.Deed{Goer: 0, Which: 1}, api.Deed{Goer: 1, Which: 0})
	if ring := Ring(l); !slices.Equal(ring, []int{0, 1}) || passed != 0 || e != api.OK {
		t.Errorf("Ring: %v; %d, %d", ring, passed, e)
	}
	if which, waits := Waits(l, 1); which != 0 || !waits {
		t.Errorf("Waits: %d, %v", which, waits)
	}
	if _, _, e := Ask(three, 3, 0); e != api.ErrArg {
		t.Errorf("Ask(3, 0): %d", e)
	}
	if _, _, e := Ask(three, 0, 8); e != api.ErrArg {
		t.Errorf("Ask(0, 8): %d", e)
	}
	once, _, _ := Ask(three, 0, 0)
	if _, _, e := Ask(once, 0, 0); e != api.ErrOwn {
		t.Errorf("Ask twice: %d", e)
	}
}

// asked holds Ask and Leave of lines against what they have to tell.
func asked(t *testing.T, s lines, which, goer int) {
	t.Helper()
	want, first, why := s.ask(which, goer)
	if l, has, e := Ask(s.laid(), which, goer); e != why || has != first || !holds(l, want) {
		t.Fatalf("Ask(%v, %d, %d): %v, %v, %d, not %v, %v, %d", s, which, goer, l, has, e, want, first, why)
	}
	want, who, why := s.leave(which, goer)
	if l, next, e := Leave(s.laid(), which, goer); e != why || next != who || !holds(l, want) {
		t.Fatalf("Leave(%v, %d, %d): %v, %d, %d, not %v, %d, %d", s, which, goer, l, next, e, want, who, why)
	}
}

// P5.2, P5.3: each goroutine, and some that there are not, of each mutex, and some that there are not, in whatever state of few.
func TestAskAndLeave(t *testing.T) {
	all := slices.Concat(states(1, []int{0, 3, 4, 7}), states(2, []int{0, 3, 7}), states(3, []int{0, 7}))
	for _, s := range all {
		for which := -2; which <= len(s)+1; which++ {
			for goer := -2; goer <= 9; goer++ {
				asked(t, s, which, goer)
			}
		}
	}
}

// P5.2, P5.3: the same in states of many mutexes, to which chance came.
func TestAskAndLeaveOfMany(t *testing.T) {
	c := chance(5)
	for _, many := range []int{4, 8, 159, 160} {
		for range 200 {
			s := c.state(many, 8, c.below(120))
			for range 60 {
				d := c.deed(s, 8)
				asked(t, s, d.Which, d.Goer)
			}
			for _, which := range []int{-1, 0, many - 1, many, many + 1} {
				for goer := -1; goer <= 8; goer++ {
					asked(t, s, which, goer)
				}
			}
		}
	}
}

// P5.2, P5.3: numbers that are far from any mutex, or any goroutine.
func TestAskAndLeaveOfNoSuch(t *testing.T) {
	c := chance(6)
	for _, s := range []lines{{nil}, {{0}}, {{7, 0}}, c.state(160, 8, 200)} {
		noSuch := func(which, goer int) {
			if l, has, e := Ask(s.laid(), which, goer); l != nil || has || e != api.ErrArg {
				t.Errorf("Ask(%d, %d) of %d: %v, %v, %d, not ErrArg", which, goer, len(s), l, has, e)
			}
			if l, next, e := Leave(s.laid(), which, goer); l != nil || next != 0 || e != api.ErrArg {
				t.Errorf("Leave(%d, %d) of %d: %v, %d, %d, not ErrArg", which, goer, len(s), l, next, e)
			}
		}
		for _, far := range append([]int{len(s), len(s) + 1}, odd...) {
			for _, goer := range append([]int{0, 7, 8, 9}, odd...) {
				noSuch(far, goer)
			}
		}
		for _, far := range append([]int{8, 9}, odd...) {
			for which := range s {
				noSuch(which, far)
			}
		}
	}
}

// P5.2: what one has, what one waits for, another one while one waits; and which error goes ahead.
func TestAskErrors(t *testing.T) {
	l := []api.Mutex{{By: 1, Queue: []int{1, 2}}, {By: 2}, {}} // 0 has 0, 1 and 2 wait for it; 1 has 1; nobody has 2
	for _, c := range []struct {
		name        string
		which, goer int
		want        api.Errno
	}{
		{"what one has, that others wait for", 0, 0, api.ErrOwn},
		{"what one has, and waits for another", 1, 1, api.ErrOwn},
		{"what one waits for", 0, 1, api.ErrOwn},
		{"what one waits for, as the last one", 0, 2, api.ErrOwn},
		{"what nobody has, while one waits", 2, 2, api.ErrOwn},
		{"what another one has, while one waits", 1, 2, api.ErrOwn},
		{"a mutex of -1, while one waits", -1, 2, api.ErrArg},
		{"one mutex too many, while one waits", 3, 1, api.ErrArg},
		{"a goroutine of -1", 0, -1, api.ErrArg},
		{"one goroutine too many", 2, 8, api.ErrArg},
		{"neither", 3, 8, api.ErrArg},
		{"what another one has", 1, 0, api.OK},
		{"what nobody has, having another", 2, 0, api.OK},
		{"what nobody has, having none", 2, 7, api.OK},
	} {
		m, has, e := Ask(l, c.which, c.goer)
		if e != c.want || e != api.OK && (m != nil || has) {
			t.Errorf("Ask for %s: %v, %v, %d, not %d", c.name, m, has, e, c.want)
		}
	}
}

// P5.3: what others wait for, what nobody waits for, what one only waits for, what nobody has; also while one waits for another.
func TestLeaveErrors(t *testing.T) {
	l := []api.Mutex{{By: 1, Queue: []int{1, 2}}, {By: 2}, {}, {By: 8}, {By: 2, Queue: []int{4}}}
	for _, c := range []struct {
		name        string
		which, goer int
		next        int
		want        api.Errno
	}{
		{"what others wait for", 0, 0, 1, api.OK},
		{"what nobody waits for", 3, 7, -1, api.OK},
		{"what nobody waits for, waiting for another", 1, 1, -1, api.OK},
		{"what one waits for, waiting for another", 4, 1, 4, api.OK},
		{"what one only waits for", 0, 1, 0, api.ErrNone},
		{"what one only waits for, as the last one", 0, 2, 0, api.ErrNone},
		{"what nobody has", 2, 0, 0, api.ErrNone},
		{"what another one has", 3, 0, 0, api.ErrNone},
		{"what another one has, having nothing", 3, 6, 0, api.ErrNone},
		{"a mutex of -1", -1, 0, 0, api.ErrArg},
		{"one mutex too many", 5, 0, 0, api.ErrArg},
		{"what nobody has, a goroutine of -1", 2, -1, 0, api.ErrArg},
		{"what is had, a goroutine of -1", 0, -1, 0, api.ErrArg},
		{"one goroutine too many", 3, 8, 0, api.ErrArg},
		{"neither", -1, 8, 0, api.ErrArg},
	} {
		m, next, e := Leave(l, c.which, c.goer)
		if e != c.want || next != c.next || e != api.OK && m != nil {
			t.Errorf("Leave %s: %v, %d, %d, not %d, %d", c.name, m, next, e, c.next, c.want)
		}
	}
}

// P5.4
func TestHasAndWaits(t *testing.T) {
	c := chance(8)
	all := states(3, []int{0, 7})
	for range 300 {
		all = append(all, c.state(1+c.below(160), 1+c.below(8), c.below(200)))
	}
	owned := make(lines, 160)
	for which := range owned {
		owned[which] = []int{7}
	}
	for _, s := range append(all, owned) {
		for _, goer := range append([]int{0, 1, 2, 3, 4, 5, 6, 7, 8, 9}, odd...) {
			if got, want := Has(s.laid(), goer), s.has(goer); !slices.Equal(got, want) {
				t.Fatalf("Has(%v, %d): %v, not %v", s, goer, got, want)
			}
			want := append(s.waits(goer), 0)[0]
			which, waits := Waits(s.laid(), goer)
			if which != want || waits != (len(s.waits(goer)) > 0) {
				t.Fatalf("Waits(%v, %d): %d, %v, not %d", s, goer, which, waits, want)
			}
		}
	}
}

// P5.4: who has nothing, and waits for nothing, among those that do.
func TestHasAndWaitsByHand(t *testing.T) {
	l := []api.Mutex{{By: 8, Queue: []int{3, 0}}, {By: 1}, {}, {By: 8}, {By: 4, Queue: []int{5}}}
	for goer, want := range [][]int{{1}, nil, nil, {4}, nil, nil, nil, {0, 3}} {
		if got := Has(l, goer); !slices.Equal(got, want) {
			t.Errorf("Has(%d): %v, not %v", goer, got, want)
		}
	}
	for goer, want := range []int{0, -1, -1, 0, -1, 4, -1, -1} {
		if which, waits := Waits(l, goer); waits != (want >= 0) || which != max(want, 0) {
			t.Errorf("Waits(%d): %d, %v, not %d", goer, which, waits, want)
		}
	}
	for _, goer := range []int{-1, 8} {
		if got := Has(l, goer); len(got) != 0 {
			t.Errorf("Has(%d): %v", goer, got)
		}
	}
}

// P5.2 to P5.5, R2: what may not be is told ahead of all else, or lets nothing be told.
func TestOfWhatMayNotBe(t *testing.T) {
	deeds := [][]api.Deed{nil, {}, {{Goer: 1}}, {{Goer: 8, Which: -1}}, {{Leave: true, Goer: 0}}, {{Goer: 2}, {Goer: 2}}}
	for name, l := range noMutexes() {
		for _, which := range []int{math.MinInt, -1, 0, 1, len(l) - 1, len(l), 160} {
			for _, goer := range []int{math.MinInt, -1, 0, 1, 2, 7, 8, math.MaxInt} {
				if m, has, e := Ask(l, which, goer); m != nil || has || e != api.ErrMutex {
					t.Errorf("Ask(%d, %d) of %s: %d, %v, %d, not ErrMutex", which, goer, name, len(m), has, e)
				}
				if m, next, e := Leave(l, which, goer); m != nil || next != 0 || e != api.ErrMutex {
					t.Errorf("Leave(%d, %d) of %s: %d, %d, %d, not ErrMutex", which, goer, name, len(m), next, e)
				}
			}
		}
		for goer := -2; goer <= 9; goer++ {
			which, waits := Waits(l, goer)
			if got := Has(l, goer); len(got) != 0 || which != 0 || waits {
				t.Errorf("Has, Waits(%d) of %s: %v; %d, %v", goer, name, got, which, waits)
			}
		}
		if ring := Ring(l); len(ring) != 0 {
			t.Errorf("Ring of %s: %v", name, ring)
		}
		for _, d := range deeds {
			if m, passed, e := Play(l, d...); m != nil || passed != 0 || e != api.ErrMutex {
				t.Errorf("Play of %s: %d, %d, %d, not ErrMutex", name, len(m), passed, e)
			}
		}
	}
}

// P5.4: a ring beside what may not be is no ring that is told.
func TestRingBesideWhatMayNotBe(t *testing.T) {
	ring := []api.Mutex{{By: 1, Queue: []int{1}}, {By: 2, Queue: []int{0}}}
	if got := Ring(ring); !slices.Equal(got, []int{0, 1}) {
		t.Errorf("Ring: %v", got)
	}
	for _, bad := range []api.Mutex{{By: 9}, {By: -1}, {Queue: []int{5}}, {By: 3, Queue: []int{0}}, {By: 3, Queue: []int{2}}} {
		if got := Ring(append(slices.Clone(ring), bad)); len(got) != 0 {
			t.Errorf("Ring beside %+v: %v", bad, got)
		}
	}
}
