package mutex

import (
	"math"
	"slices"
	"testing"

	"honeycomb/api"
)

// ask and leave are deeds.
func ask(goer, which int) api.Deed { return api.Deed{Goer: goer, Which: which} }

func leave(goer, which int) api.Deed { return api.Deed{Leave: true, Goer: goer, Which: which} }

// P5.5
func TestPlay(t *testing.T) {
	for name, c := range map[string]struct {
		from   lines
		deeds  []api.Deed
		to     lines
		passed int
		want   api.Errno
	}{
		"no deeds":                            {lines{{0, 1}, nil}, nil, lines{{0, 1}, nil}, 0, api.OK},
		"one asks":                            {lines{nil}, []api.Deed{ask(7, 0)}, lines{{7}}, 0, api.OK},
		"one asks, and leaves":                {lines{nil}, []api.Deed{ask(7, 0), leave(7, 0)}, lines{nil}, 0, api.OK},
		"all ask for one":                     {lines{nil}, []api.Deed{ask(3, 0), ask(7, 0), ask(0, 0)}, lines{{3, 7, 0}}, 0, api.OK},
		"who waits is passed over":            {lines{{3}, nil}, []api.Deed{ask(1, 0), ask(1, 1), ask(1, 1)}, lines{{3, 1}, nil}, 2, api.OK},
		"who waited at first, too":            {lines{{3, 1}, nil}, []api.Deed{ask(1, 1)}, lines{{3, 1}, nil}, 1, api.OK},
		"who waits does not leave":            {lines{{3}, {1}}, []api.Deed{ask(1, 0), leave(1, 1)}, lines{{3, 1}, {1}}, 1, api.OK},
		"who waits no more steps again":       {lines{{3}, {1}}, []api.Deed{ask(1, 0), leave(1, 1), leave(3, 0), leave(1, 1)}, lines{{1}, nil}, 1, api.OK},
		"who waits asks for what it waits":    {lines{{3, 1}}, []api.Deed{ask(1, 0), leave(1, 0)}, lines{{3, 1}}, 2, api.OK},
		"who waits is not asked what it does": {lines{{3, 1}}, []api.Deed{ask(1, -1), leave(1, 1), leave(1, math.MaxInt)}, lines{{3, 1}}, 3, api.OK},
		"a ring, all are passed over":         {lines{{0, 1}, {1, 0}}, []api.Deed{leave(0, 0), leave(1, 1), ask(0, 0)}, lines{{0, 1}, {1, 0}}, 3, api.OK},
		"a ring, others step":                 {lines{{0, 1}, {1, 0}, nil}, []api.Deed{leave(0, 0), ask(2, 2), ask(2, 0)}, lines{{0, 1, 2}, {1, 0}, {2}}, 1, api.OK},
		"the first has an error":              {lines{nil}, []api.Deed{leave(0, 0), ask(0, 0)}, nil, 0, api.ErrNone},
		"one in the middle":                   {lines{nil, nil}, []api.Deed{ask(0, 0), ask(0, 0), ask(0, 1)}, nil, 0, api.ErrOwn},
		"one in the middle, behind others":    {lines{nil, nil}, []api.Deed{ask(0, 0), ask(1, 0), ask(1, 0), ask(2, 2), ask(0, 1)}, nil, 0, api.ErrArg},
		"the last":                            {lines{nil}, []api.Deed{ask(0, 0), leave(0, 0), leave(0, 0)}, nil, 0, api.ErrNone},
		"of two errors the first":             {lines{nil}, []api.Deed{ask(0, 0), leave(1, 0), ask(0, 1)}, nil, 0, api.ErrNone},
		"of two errors the other first":       {lines{nil}, []api.Deed{ask(0, 0), ask(0, 1), leave(1, 0)}, nil, 0, api.ErrArg},
		"a goroutine that there is not":       {lines{nil}, []api.Deed{ask(8, 0)}, nil, 0, api.ErrArg},
		"a goroutine of -1":                   {lines{nil}, []api.Deed{leave(-1, 0)}, nil, 0, api.ErrArg},
		"neither goroutine nor mutex":         {lines{nil}, []api.Deed{ask(math.MinInt, math.MaxInt)}, nil, 0, api.ErrArg},
		"no mutex of -1":                      {lines{nil}, []api.Deed{leave(0, -1)}, nil, 0, api.ErrArg},
		"an error behind what is passed over": {lines{{3, 1}}, []api.Deed{ask(1, 0), leave(3, 0), ask(1, 0)}, nil, 0, api.ErrOwn},
	} {
		l, passed, e := Play(c.from.laid(), c.deeds...)
		if e != c.want || passed != c.passed || !holds(l, c.to) {
			t.Errorf("%s: %v, %d, %d, not %v, %d, %d", name, l, passed, e, c.to, c.passed, c.want)
		}
		if e != api.OK && l != nil {
			t.Errorf("%s: mutexes with an error: %v", name, l)
		}
	}
}

// stray is a deed that more often than others is of no mutex, or no goroutine.
func (c *chance) stray(s lines) api.Deed {
	d := c.deed(s, 8)
	switch c.below(40) {
	case 0:
		d.Which = []int{-1, len(s), math.MaxInt}[c.below(3)]
	case 1:
		d.Goer = []int{-1, 8, math.MinInt}[c.below(3)]
	}
	return d
}

// P5.5, P5.6: deeds to which chance comes are as those of lines, and as Ask and Leave of each; what comes may be.
func TestPlayByChance(t *testing.T) {
	c := chance(21)
	told := map[api.Errno]int{}
	skipped := 0
	for range 4000 {
		s := c.state(1+c.below(5), 8, c.below(30))
		deeds := make([]api.Deed, c.below(25))
		at := s
		for n := range deeds {
			deeds[n] = c.stray(at)
			if c.below(12) > 0 { // most are such as can be done
				for range 20 {
					if u, _, e := at.play(deeds[n : n+1]); e == api.OK {
						at = u
						break
					}
					deeds[n] = c.deed(at, 8)
				}
			}
		}
		want, many, why := s.play(deeds)
		l, passed, e := Play(s.laid(), deeds...)
		if e != why || passed != many || !holds(l, want) {
			t.Fatalf("Play(%v, %+v): %v, %d, %d, not %v, %d, %d", s, deeds, l, passed, e, want, many, why)
		}
		if e == api.OK && Check(l) != api.OK {
			t.Fatalf("Play(%v, %+v): %v, which may not be", s, deeds, l)
		}
		one, few, e := oneByOne(s.laid(), deeds)
		if e != why || few != many || !Same(one, l) {
			t.Fatalf("one by one, %v, %+v: %v, %d, %d, not %v, %d, %d", s, deeds, one, few, e, l, many, why)
		}
		told[e]++
		skipped += passed
	}
	for _, e := range []api.Errno{api.OK, api.ErrArg, api.ErrOwn, api.ErrNone} {
		if told[e] < 50 {
			t.Errorf("%d told %d times", e, told[e])
		}
	}
	if skipped < 1000 {
		t.Errorf("%d passed over", skipped)
	}
}

// oneByOne does deeds by Ask and Leave.
func oneByOne(l []api.Mutex, deeds []api.Deed) ([]api.Mutex, int, api.Errno) {
	passed := 0
	for _, d := range deeds {
		if _, waits := Waits(l, d.Goer); waits {
			passed++
			continue
		}
		var e api.Errno
		if d.Leave {
			l, _, e = Leave(l, d.Which, d.Goer)
		} else {
			l, _, e = Ask(l, d.Which, d.Goer)
		}
		if e != api.OK {
			return nil, 0, e
		}
	}
	return l, passed, api.OK
}

// P5.6: who asks first has it first.
func TestFirstHasItFirst(t *testing.T) {
	c := chance(22)
	for range 200 {
		l, _ := New(1 + c.below(160))
		which := c.below(len(l))
		order := []int{0, 1, 2, 3, 4, 5, 6, 7}
		for n := range order {
			other := n + c.below(8-n)
			order[n], order[other] = order[other], order[n]
		}
		for n, goer := range order {
			m, has, e := Ask(l, which, goer)
			if has != (n == 0) || e != api.OK {
				t.Fatalf("Ask by %d, the %d-th: %v, %d", goer, n, has, e)
			}
			l = m
		}
		for n, goer := range order {
			m, next, e := Leave(l, which, goer)
			want := -1
			if n < 7 {
				want = order[n+1]
			}
			if next != want || e != api.OK {
				t.Fatalf("Leave by %d: %d, %d, not %d", goer, next, e, want)
			}
			if next >= 0 {
				if _, waits := Waits(m, next); waits || !slices.Equal(Has(m, next), []int{which}) {
					t.Fatalf("%d has left: %d waits, or does not have %d: %v", goer, next, which, m)
				}
			}
			l = m
		}
		if none, _ := New(len(l)); !Same(l, none) {
			t.Fatalf("all have left: %v", l)
		}
	}
}

// P5.6: if each asks but for mutexes greater than all that it has, there is no ring, and someone can step.
func TestRisingHasNoRing(t *testing.T) {
	c := chance(23)
	waited := 0
	for range 500 {
		l, _ := New(2 + c.below(6))
		for range 60 {
			d := api.Deed{Leave: c.below(4) == 0, Goer: c.below(8), Which: c.below(len(l))}
			if has := Has(l, d.Goer); !d.Leave && len(has) > 0 && has[len(has)-1] >= d.Which {
				continue
			}
			if m, passed, e := Play(l, d); e == api.OK {
				l, waited = m, waited+passed
			}
			if ring := Ring(l); len(ring) > 0 {
				t.Fatalf("Ring(%v): %v", l, ring)
			}
			can := false
			for goer := range 8 {
				_, waits := Waits(l, goer)
				can = can || !waits
			}
			if !can {
				t.Fatalf("nobody can step: %v", l)
			}
		}
	}
	if waited == 0 {
		t.Error("nobody waited")
	}
}

// P5.6: asked for, and left, by one that nobody waits with, all is as it was.
func TestAskedForAndLeft(t *testing.T) {
	for _, s := range states(3, []int{0, 3, 7}) {
		for which, line := range s {
			for goer := range 8 {
				if len(line) > 0 || len(s.waits(goer)) > 0 {
					continue
				}
				l, has, e := Ask(s.laid(), which, goer)
				if !has || e != api.OK || Same(l, s.laid()) {
					t.Fatalf("Ask(%v, %d, %d): %v, %d", s, which, goer, has, e)
				}
				l, next, e := Leave(l, which, goer)
				if next != -1 || e != api.OK || !Same(l, s.laid()) {
					t.Fatalf("%v, asked for %d, and left, by %d: %v, %d, %d", s, which, goer, l, next, e)
				}
			}
		}
	}
}

// roomy are mutexes with room behind their row, and behind each queue.
func roomy() (all []api.Mutex, queues [][]int) {
	queues = [][]int{{1, 2, 99, 98}, {97, 96}, {3, 95, 94}}
	return []api.Mutex{
		{By: 1, Queue: queues[0][:2]},
		{By: 1, Queue: queues[1][:0]},
		{By: 3, Queue: queues[2][:1]},
		{},
		{By: 77, Queue: []int{88}},
		{By: 66},
	}, queues
}

// P5.2 to P5.5, R3: what is handed in stays, with the room behind it, whatever is done with what is told.
func TestWhatIsHandedInStays(t *testing.T) {
	all, queues := roomy()
	l := all[:4]
	deeds := []api.Deed{ask(5, 1), ask(4, 0), leave(0, 1), leave(0, 0), ask(6, 2), ask(0, 3), leave(0, 3), {Goer: 77}}
	var told [][]api.Mutex
	for which := -1; which <= 4; which++ {
		for goer := -1; goer <= 8; goer++ {
			m, _, _ := Ask(l, which, goer)
			n, _, _ := Leave(l, which, goer)
			told = append(told, m, n)
		}
	}
	for many := range deeds {
		m, _, _ := Play(l, deeds[:many]...)
		told = append(told, m)
	}
	for _, m := range told {
		for which := range m {
			m[which].By = 55
			_ = append(m[which].Queue, 44)
			clear(m[which].Queue)
		}
		_ = append(m, api.Mutex{By: 33})
	}
	for goer := range 8 {
		has := Has(l, goer)
		_ = append(has, 22)
		clear(has)
		Waits(l, goer)
	}
	Ring(l)
	Check(l)
	Same(l, l)
	was, rows := roomy()
	if !slices.EqualFunc(all, was, func(m, n api.Mutex) bool { return m.By == n.By && slices.Equal(m.Queue, n.Queue) }) {
		t.Errorf("mutexes are %v, not %v", all, was)
	}
	if !slices.EqualFunc(queues, rows, func(a, b []int) bool { return slices.Equal(a, b) }) {
		t.Errorf("queues are %v, not %v", queues, rows)
	}
	if deeds[0] != ask(5, 1) || deeds[7] != (api.Deed{Goer: 77}) {
		t.Errorf("deeds are %v", deeds)
	}
}

// R3: queues that come in as one piece of memory are told as several.
func TestToldQueuesShareNothing(t *testing.T) {
	one := []int{1, 2, 3, 4, 5, 6}
	l := []api.Mutex{{By: 1, Queue: one[:2]}, {By: 1, Queue: one[2:4]}, {By: 8, Queue: one[4:6]}}
	for name, told := range map[string]func() []api.Mutex{
		"Play of no deeds": func() []api.Mutex { m, _, _ := Play(l); return m },
		"Play":             func() []api.Mutex { m, _, _ := Play(l, leave(0, 0), ask(0, 2), leave(7, 2)); return m },
		"Ask":              func() []api.Mutex { m, _, _ := Ask(l, 1, 7); return m },
		"Leave":            func() []api.Mutex { m, _, _ := Leave(l, 1, 0); return m },
	} {
		want := told()
		for which := range want {
			m := told()
			for range 3 {
				m[which].Queue = append(m[which].Queue, 99)
			}
			clear(m[which].Queue)
			for other := range m {
				if other != which && !slices.Equal(m[other].Queue, want[other].Queue) {
					t.Errorf("%s: the queues of %d and %d share memory", name, which, other)
				}
			}
		}
		if again := told(); !Same(again, want) {
			t.Errorf("%s: %v, and then %v", name, want, again)
		}
	}
}

// R3, R5: rows are told anew each time.
func TestToldRowsAreNew(t *testing.T) {
	l := []api.Mutex{{By: 1, Queue: []int{1}}, {By: 2, Queue: []int{0}}, {By: 1}}
	for range 2 {
		ring, has := Ring(l), Has(l, 0)
		if !slices.Equal(ring, []int{0, 1}) || !slices.Equal(has, []int{0, 2}) {
			t.Errorf("Ring, Has: %v, %v", ring, has)
		}
		_, _ = append(ring, 9), append(has, 9)
		clear(ring)
		clear(has)
	}
}

// R2: with an error nothing has changed that a later call could tell.
func TestNothingChangesWithAnError(t *testing.T) {
	s := lines{{0, 1}, {1}, nil}
	l := s.laid()
	Ask(l, 0, 0)
	Ask(l, 2, 1)
	Leave(l, 0, 1)
	Leave(l, 2, 2)
	Play(l, ask(2, 2), ask(0, 1), leave(2, 0))
	if !holds(l, s) {
		t.Errorf("mutexes are %v, not %v", l, s)
	}
}

// R1: very many deeds end, too.
func TestVeryManyDeeds(t *testing.T) {
	l, _ := New(160)
	deeds := make([]api.Deed, 0, 1<<16)
	for n := 0; len(deeds) < 1<<16; n++ {
		deeds = append(deeds, ask(n%8, n%160), leave(n%8, n%160))
	}
	if m, passed, e := Play(l, deeds...); passed != 0 || e != api.OK || !Same(m, l) {
		t.Errorf("Play: %d, %d", passed, e)
	}
	m, passed, e := Play(l, append([]api.Deed{ask(0, 159), ask(1, 159)}, slices.Repeat([]api.Deed{ask(1, 5)}, 1<<16)...)...)
	if passed != 1<<16 || e != api.OK || !Same(m[159:], []api.Mutex{{By: 1, Queue: []int{1}}}) {
		t.Errorf("Play of one that waits: %d, %d", passed, e)
	}
}
