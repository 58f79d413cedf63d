package cells

import (
	"math"
	"slices"
	"sync"
	"testing"

	"honeycomb/api"
)

// share is a thing that has these cells, or the test's end.
func share(t *testing.T, words []uint64) *Shared {
	t.Helper()
	s, e := Share(words)
	if s == nil || e != api.OK {
		t.Fatalf("Share of %d words: %d", len(words), e)
	}
	return s
}

// together lets eight go at one time, and waits for all.
func together(do func(who int)) {
	var all sync.WaitGroup
	var begin sync.WaitGroup
	begin.Add(1)
	for who := range api.MaxWho {
		all.Go(func() {
			begin.Wait()
			do(who)
		})
	}
	begin.Done()
	all.Wait()
}

// P2.5
func TestShare(t *testing.T) {
	for _, many := range sizes {
		c := chance(many + 10)
		words := c.words(many)
		if got := share(t, words).Words(); !slices.Equal(got, words) {
			t.Errorf("Share of %d words: others", many)
		}
	}
	for _, words := range noRows() {
		if s, e := Share(words); s != nil || e != api.ErrCells {
			t.Errorf("Share of %d words: %v, %d, not ErrCells", len(words), s, e)
		}
	}
}

// P2.5
func TestSharedDo(t *testing.T) {
	s := share(t, []uint64{5, 6})
	for _, c := range []struct {
		a     api.Access
		seen  api.Seen
		cells []uint64
	}{
		{api.Access{Kind: api.CeSwap, Old: 5, New: 7}, api.Seen{Value: 5, Done: true}, []uint64{7, 6}},
		{api.Access{Kind: api.CeSwap, Old: 5, New: 8}, api.Seen{Value: 7}, []uint64{7, 6}},
		{api.Access{Who: 7, Kind: api.CeAdd, At: 1, New: math.MaxUint64}, api.Seen{Value: 6, Done: true}, []uint64{7, 5}},
		{api.Access{Kind: api.CeLoad, At: 1, New: 3}, api.Seen{Value: 5, Done: true}, []uint64{7, 5}},
		{api.Access{Kind: api.CeStore, At: 1, Old: 3, New: math.MaxUint64}, api.Seen{Value: 5, Done: true}, []uint64{7, math.MaxUint64}},
		{api.Access{Kind: api.CeAdd, At: 1, New: 1}, api.Seen{Value: math.MaxUint64, Done: true}, []uint64{7, 0}},
		{api.Access{Kind: api.CeStore, New: 7}, api.Seen{Value: 7, Done: true}, []uint64{7, 0}},
	} {
		seen, e := s.Do(c.a)
		if got := s.Words(); seen != c.seen || e != api.OK || !slices.Equal(got, c.cells) {
			t.Errorf("Do(%+v): %+v, %d, %v, not %+v, %v", c.a, seen, e, got, c.seen, c.cells)
		}
	}
}

// P2.5, R2: what can't be done changes nothing.
func TestSharedDoOfWhatCantBe(t *testing.T) {
	s := share(t, []uint64{5, 6})
	for _, c := range bad {
		seen, e := s.Do(c.a)
		if got := s.Words(); seen != (api.Seen{}) || e != c.want || !slices.Equal(got, []uint64{5, 6}) {
			t.Errorf("Do(%+v): %+v, %d, %v, not %d", c.a, seen, e, got, c.want)
		}
	}
	for _, many := range sizes {
		s := share(t, make([]uint64, many))
		for _, at := range []int{-1, many, math.MinInt, math.MaxInt} {
			if seen, e := s.Do(api.Access{Kind: api.CeAdd, At: at, New: 1}); seen != (api.Seen{}) || e != api.ErrArg {
				t.Errorf("Do of %d cells, at %d: %+v, %d, not ErrArg", many, at, seen, e)
			}
		}
	}
}

// P2.5, R4: a nil thing tells ErrNil ahead of all else, and has no words.
func TestNilThing(t *testing.T) {
	var s *Shared
	if seen, e := s.Do(api.Access{Kind: api.CeLoad}); seen != (api.Seen{}) || e != api.ErrNil {
		t.Errorf("Do: %+v, %d, not ErrNil", seen, e)
	}
	for _, c := range bad {
		if seen, e := s.Do(c.a); seen != (api.Seen{}) || e != api.ErrNil {
			t.Errorf("Do(%+v): %+v, %d, not ErrNil", c.a, seen, e)
		}
	}
	if got := s.Words(); len(got) != 0 {
		t.Errorf("Words: %v", got)
	}
}

// R1: nothing is asked of a zero thing, but for not to panic.
func TestZeroThing(t *testing.T) {
	var s Shared
	for kind := range 6 {
		s.Do(api.Access{Kind: kind})
	}
	s.Words()
}

// P2.5, R3: the thing keeps nothing of what it was given, and gives out nothing that it has.
func TestSharedSharesNoMemory(t *testing.T) {
	room := []uint64{5, 6, 77}
	s := share(t, room[:2])
	room[0] = 50
	if got := s.Words(); !slices.Equal(got, []uint64{5, 6}) {
		t.Errorf("Words behind a change of what was handed in: %v", got)
	}
	words := s.Words()
	words[1] = 60
	if got := s.Words(); !slices.Equal(got, []uint64{5, 6}) {
		t.Errorf("Words behind a change of what was told: %v", got)
	}
	s.Do(api.Access{Kind: api.CeStore, At: 1, New: 9})
	if !slices.Equal(room, []uint64{50, 6, 77}) || words[1] != 60 {
		t.Errorf("Do changed what is not its own: %v, %v", room, words)
	}
	other := share(t, room[:2])
	other.Do(api.Access{Kind: api.CeStore, New: 1})
	if got := s.Words(); !slices.Equal(got, []uint64{5, 9}) {
		t.Errorf("Words behind a change of another thing: %v", got)
	}
}

// P2.6: a thing that has cells comes to what Run says.
func TestSharedIsRun(t *testing.T) {
	c := chance(8)
	for n := range 200 {
		many := 1 + c.below(6)
		if n%50 == 0 {
			many = api.MaxCells
		}
		words := c.words(many)
		l := c.accesses(c.below(60), many)
		cells, all, _, e := Run(words, l...)
		if e != api.OK {
			t.Fatalf("Run: %d", e)
		}
		s := share(t, words)
		for by, a := range l {
			if seen, e := s.Do(a); seen != all[by] || e != api.OK {
				t.Fatalf("access %d, %+v: %+v, %d, not %+v", by, a, seen, e, all[by])
			}
		}
		if got := s.Words(); !slices.Equal(got, cells) {
			t.Fatalf("%v behind %+v: %v, not %v", words, l, got, cells)
		}
	}
}

const times = 20000

// P2.5, P2.6: of adds at one time none is lost, and each saw another value.
func TestAddsAtOneTime(t *testing.T) {
	s := share(t, make([]uint64, 2))
	var met [api.MaxWho][]uint64
	together(func(who int) {
		for range times {
			seen, e := s.Do(api.Access{Who: who, Kind: api.CeAdd, At: 1, New: 1})
			if !seen.Done || e != api.OK {
				t.Errorf("Do: %+v, %d", seen, e)
			}
			met[who] = append(met[who], seen.Value)
		}
	})
	all := slices.Concat(met[:]...)
	slices.Sort(all)
	for n, w := range all {
		if w != uint64(n) {
			t.Fatalf("the value %d was seen in place of %d", w, n)
		}
	}
	if got := s.Words(); !slices.Equal(got, []uint64{0, api.MaxWho * times}) {
		t.Errorf("Words: %v", got)
	}
}

// P2.5: of stores at one time each saw what just one other had stored: they stand in one row.
func TestStoresAtOneTime(t *testing.T) {
	s := share(t, make([]uint64, 1))
	var met [api.MaxWho][]uint64
	together(func(who int) {
		for n := range times {
			seen, _ := s.Do(api.Access{Who: who, Kind: api.CeStore, New: uint64(1 + who + n*api.MaxWho)})
			met[who] = append(met[who], seen.Value)
		}
	})
	all := append(slices.Concat(met[:]...), s.Words()[0])
	slices.Sort(all)
	for n, w := range all {
		if w != uint64(n) {
			t.Fatalf("the value %d was seen in place of %d", w, n)
		}
	}
}

// P2.5: of swaps at one time that expect the same one is done; one that isn't tells something else than what it expected.
func TestSwapsAtOneTime(t *testing.T) {
	s := share(t, make([]uint64, 1))
	var done [api.MaxWho]int
	together(func(who int) {
		for n := range times {
			seen, _ := s.Do(api.Access{Who: who, Kind: api.CeSwap, Old: uint64(n), New: uint64(n + 1)})
			if seen.Done != (seen.Value == uint64(n)) || seen.Value < uint64(n) {
				t.Errorf("swap of %d: %+v", n, seen)
				return
			}
			if seen.Done {
				done[who]++
			}
		}
	})
	sum := 0
	for _, n := range done {
		sum += n
	}
	if got := s.Words()[0]; sum != times || got != times {
		t.Errorf("%d swaps were done, the cell holds %d: not %d", sum, got, times)
	}
}

// P2.5: a cell that goes to and fro is swapped just if it holds what is expected, and what is told is what it held then.
func TestSwapsOfWhatGoesToAndFro(t *testing.T) {
	s := share(t, make([]uint64, 3))
	together(func(who int) {
		for n := range times {
			a := api.Access{Who: who, Kind: api.CeSwap, At: 1, Old: uint64(who % 2), New: uint64(1 - who%2)}
			if who < 2 {
				a = api.Access{Who: who, Kind: api.CeStore, At: 1, New: uint64(n % 2)}
			}
			seen, e := s.Do(a)
			if e != api.OK || seen.Value > 1 || who >= 2 && seen.Done != (seen.Value == a.Old) || who < 2 && !seen.Done {
				t.Errorf("Do(%+v): %+v, %d", a, seen, e)
				return
			}
		}
	})
	if got := s.Words(); got[0] != 0 || got[1] > 1 || got[2] != 0 {
		t.Errorf("Words: %v", got)
	}
}

// P2.5: what one does in its own cell nobody else changes, and what is looked at meanwhile is whole.
func TestCellsOfEach(t *testing.T) {
	s := share(t, make([]uint64, api.MaxWho))
	together(func(who int) {
		for n := range times / 4 {
			w := uint64(n) * (1<<32 + 1) // both halves change
			s.Do(api.Access{Who: who, Kind: api.CeStore, At: who, New: w})
			if seen, _ := s.Do(api.Access{Who: who, Kind: api.CeLoad, At: who}); seen != (api.Seen{Value: w, Done: true}) {
				t.Errorf("%d stored by %d, loaded: %+v", w, who, seen)
				return
			}
			if n%100 == 0 && s.Words()[who] != w {
				t.Errorf("%d stored by %d, and not in Words", w, who)
				return
			}
		}
	})
}
