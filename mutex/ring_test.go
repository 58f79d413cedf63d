package mutex

import (
	"slices"
	"testing"

	"honeycomb/api"
)

// P5.4
func TestRing(t *testing.T) {
	for name, c := range map[string]struct {
		s    lines
		want []int
	}{
		"nobody has anything":                     {lines{nil, nil}, nil},
		"nobody waits":                            {lines{{0}, {1}, {1}}, nil},
		"one waits":                               {lines{{0, 1}}, nil},
		"all others wait for one":                 {lines{{0, 1, 2, 3, 4, 5, 6, 7}}, nil},
		"two":                                     {lines{{0, 1}, {1, 0}}, []int{0, 1}},
		"two, the last ones":                      {lines{{7, 6}, {6, 7}}, []int{6, 7}},
		"three, rising":                           {lines{{0, 2}, {1, 0}, {2, 1}}, []int{0, 1, 2}},
		"three, the other way round":              {lines{{0, 1}, {1, 2}, {2, 0}}, []int{0, 2, 1}},
		"three that leave some out":               {lines{{5, 3}, {7, 5}, {3, 7}}, []int{3, 5, 7}},
		"three that leave some out, the other":    {lines{{5, 7}, {7, 3}, {3, 5}}, []int{3, 7, 5}},
		"a chain":                                 {lines{{0, 1}, {1, 2}, {2, 3}, {3, 4}}, nil},
		"a chain, the other way round":            {lines{{1, 0}, {2, 1}, {3, 2}, {4, 3}}, nil},
		"two chains to one":                       {lines{{4, 0, 7}, {0, 1}, {7, 6}}, nil},
		"two mutexes had by one, no ring":         {lines{{0, 1}, {0, 2}}, nil},
		"two mutexes had by one, in a ring":       {lines{{0}, {0, 1}, {1, 0}}, []int{0, 1}},
		"two had by one, the other one asked for": {lines{{0, 1}, {0, 2}, {1, 0}}, []int{0, 1}},
		"two had by one, the ring by the second":  {lines{{0, 2}, {0, 1}, {1, 0}}, []int{0, 1}},
		"a ring, and one that waits for it":       {lines{{1, 2}, {2, 1, 0}}, []int{1, 2}},
		"and one that waits ahead of it":          {lines{{1, 0, 2}, {2, 1}}, []int{1, 2}},
		"and a chain that waits for it":           {lines{{5, 4}, {4, 5, 3}, {3, 2}, {2, 1}, {1, 0}}, []int{4, 5}},
		"and one that waits for who waits for it": {lines{{5, 6}, {6, 5, 0}, {0, 7}}, []int{5, 6}},
		"two rings":                               {lines{{2, 3}, {3, 2}, {0, 1}, {1, 0}}, []int{0, 1}},
		"two rings, one in the other":             {lines{{1, 6}, {6, 1}, {0, 7}, {7, 0}}, []int{0, 7}},
		"two rings, the greater one longer":       {lines{{2, 5}, {5, 2}, {1, 3}, {3, 4}, {4, 7}, {7, 1}}, []int{1, 7, 4, 3}},
		"of four rings the first":                 {lines{{6, 7}, {7, 6}, {4, 5}, {5, 4}, {2, 3}, {3, 2}, {0, 1}, {1, 0}}, []int{0, 1}},
		"all eight":                               {lines{{1, 0}, {2, 1}, {3, 2}, {4, 3}, {5, 4}, {6, 5}, {7, 6}, {0, 7}}, []int{0, 1, 2, 3, 4, 5, 6, 7}},
		"all eight, the other way round":          {lines{{0, 1}, {1, 2}, {2, 3}, {3, 4}, {4, 5}, {5, 6}, {6, 7}, {7, 0}}, []int{0, 7, 6, 5, 4, 3, 2, 1}},
		"seven of eight, the first one waits":     {lines{{2, 1}, {3, 2}, {4, 3}, {5, 4}, {6, 5}, {7, 6}, {1, 7, 0}}, []int{1, 2, 3, 4, 5, 6, 7}},
	} {
		if e := Check(c.s.laid()); e != api.OK {
			t.Fatalf("%s: Check: %d", name, e)
		}
		if got := Ring(c.s.laid()); !slices.Equal(got, c.want) || !slices.Equal(c.s.ring(), c.want) {
			t.Errorf("%s: %v, not %v (%v by the rule)", name, got, c.want, c.s.ring())
		}
	}
}

// chains goes through all ways in which each of n goroutines, that has the mutex of its number, waits for none, or for the one of another.
func chains(n int, yield func(lines)) {
	var further func(s lines, goer int)
	further = func(s lines, goer int) {
		if goer == n {
			yield(s)
			return
		}
		further(s, goer+1)
		for which := range n {
			if which != goer {
				t := s.clone()
				t[which] = append(t[which], goer)
				further(t, goer+1)
			}
		}
	}
	s := make(lines, n)
	for goer := range n {
		s[goer] = []int{goer}
	}
	further(s, 0)
}

// P5.4, P5.6: each way in which up to five wait for each other; someone can step, if there is no ring.
func TestRingOfAllChains(t *testing.T) {
	for n := 1; n <= 5; n++ {
		rings := 0
		chains(n, func(s lines) {
			l := s.laid()
			got := Ring(l)
			if want := s.ring(); !slices.Equal(got, want) {
				t.Fatalf("Ring(%v): %v, not %v", s, got, want)
			}
			if len(got) > 0 {
				rings++
				return
			}
			for goer := range n {
				if _, waits := Waits(l, goer); !waits {
					return
				}
			}
			t.Fatalf("no ring in %v, and nobody can step", s)
		})
		if (rings > 0) != (n > 1) {
			t.Errorf("%d rings of %d", rings, n)
		}
	}
}

// P5.4: where many wait, and have several.
func TestRingByChance(t *testing.T) {
	c := chance(11)
	long := map[int]int{}
	for range 6000 {
		goers := 2 + c.below(7)
		s := make(lines, 2+c.below(10))
		for range c.below(60) { // none of these leaves what it has: so more and more of them wait
			if u, _, e := s.ask(c.below(len(s)), c.below(goers)); e == api.OK {
				s = u
			}
		}
		got := Ring(s.laid())
		if want := s.ring(); !slices.Equal(got, want) {
			t.Fatalf("Ring(%v): %v, not %v", s, got, want)
		}
		long[len(got)]++
	}
	for _, many := range []int{0, 2, 3, 4} {
		if long[many] == 0 {
			t.Errorf("no ring of %d: %v", many, long)
		}
	}
}

// P5.4: each one of a ring waits for what the next one has, the last one for what the first one has; the first one is the least.
func TestRingIsOne(t *testing.T) {
	c := chance(12)
	for range 2000 {
		s := make(lines, 8)
		for range 40 {
			if u, _, e := s.ask(c.below(8), c.below(8)); e == api.OK {
				s = u
			}
		}
		l := s.laid()
		ring := Ring(l)
		for n, goer := range ring {
			which, waits := Waits(l, goer)
			if next := ring[(n+1)%len(ring)]; !waits || !slices.Contains(Has(l, next), which) || goer < ring[0] {
				t.Fatalf("Ring(%v): %v", s, ring)
			}
		}
	}
}
