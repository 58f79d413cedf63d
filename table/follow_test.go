package table_test

import (
	"maps"
	"slices"
	"testing"

	"honeycomb/api"
	"honeycomb/table"
)

// life is a table that lives on, and what it has to have by what was done to it.
type life struct {
	t    *testing.T
	seed uint64
	is   api.Table
	has  map[uint64]uint64
	keys []uint64 // of which all that comes is one
}

// lifeOf has keys whose rows begin with the group 0, or 1, or by chance.
func lifeOf(t *testing.T, c *chance, seed uint64, depth, first int) *life {
	l := &life{t: t, seed: seed, has: map[uint64]uint64{}}
	var e api.Errno
	if l.is, e = table.New(depth, c.word()&(1<<depth-1)); e != api.OK {
		t.Fatal(e)
	}
	for range 20 {
		begins := first
		if begins > 1 {
			begins = c.below(2)
		}
		l.keys = append(l.keys, c.key(seed, depth, l.is.Prefix, begins, fewH2s[c.below(8)]))
	}
	return l
}

// hold: what there is may be, has just what it has to have, and all of that is found (P17.6).
func (l *life) hold() {
	l.t.Helper()
	if e := table.Check(l.seed, l.is); e != api.OK || l.is.Live != len(l.has) {
		l.t.Fatalf("%v may not be: %d; or it has not %v", l.is, e, l.has)
	}
	if got := maps.Collect(all(table.Pairs(l.seed, l.is))); !maps.Equal(got, l.has) {
		l.t.Fatalf("%v has %v, not %v", l.is, got, l.has)
	}
	for _, key := range l.keys {
		at, many, e := table.Find(l.seed, l.is, key)
		value, there := l.has[key]
		if there != (e == api.OK) || there && (l.is.Keys[at] != key || l.is.Values[at] != value || many < 1) {
			l.t.Fatalf("%v: %d is found in %d, %d, %d", l.is, key, at, many, e)
		}
	}
}

// all tells pairs as a map would.
func all(l []api.Pair) func(yield func(key, value uint64) bool) {
	return func(yield func(key, value uint64) bool) {
		for _, p := range l {
			if !yield(p.Key, p.Value) {
				return
			}
		}
	}
}

// do is one thing by chance, and what has to come of it; it tells the error.
func (l *life) do(c *chance) api.Errno {
	l.t.Helper()
	key, value, was := l.keys[c.below(len(l.keys))], c.word(), l.is
	_, there := l.has[key]
	var next api.Table
	var e, want api.Errno
	kind := []string{"Put", "Put", "Put", "Set", "Drop"}[c.below(5)]
	switch kind {
	case "Put":
		place, no := table.Place(l.seed, l.is, key)
		var at int
		if next, at, e = table.Put(l.seed, l.is, key, value); at != place || e != no {
			l.t.Fatalf("Put(%v, %d): %d, %d, not %d, %d", was, key, at, e, place, no)
		}
		if there {
			want = api.ErrThere
		} else if e == api.ErrFull && was.Can == 0 {
			want = e
		}
	case "Set":
		if next, e = table.Set(l.seed, l.is, key, value); !there {
			want = api.ErrNone
		}
	case "Drop":
		if next, _, e = table.Drop(l.seed, l.is, key); !there {
			want = api.ErrNone
		}
	}
	if e != want {
		l.t.Fatalf("%s(%v, %d): %d, not %d", kind, was, key, e, want)
	}
	if e == api.OK {
		if l.is, l.has[key] = next, value; kind == "Drop" {
			delete(l.has, key)
		}
	}
	return e
}

// grow: a table that is full is laid anew, if it has few keys; else its halves, which are held, are left, and one of them goes on.
func (l *life) grow(c *chance) {
	l.t.Helper()
	was := l.is
	if was.Live < leastSplit {
		var e api.Errno
		if l.is, e = table.Anew(l.seed, was); e != api.OK || l.is.Can != mostFill-was.Live {
			l.t.Fatalf("Anew(%v): %v, %d", was, l.is, e)
		}
		return
	}
	halves, e := table.Halves(l.seed, was)
	if was.Depth == mostDepth {
		if e != api.ErrDeep {
			l.t.Fatalf("Halves(%v): %d", was, e)
		}
		return
	}
	if e != api.OK || !slices.Equal(sortedPairs(l.seed, halves[:]...), sortedPairs(l.seed, was)) {
		l.t.Fatalf("Halves(%v): %v, %d", was, halves, e)
	}
	l.is = halves[c.below(2)]
	l.has = maps.Collect(all(table.Pairs(l.seed, l.is)))
	l.keys = slices.DeleteFunc(l.keys, func(key uint64) bool {
		_, e := table.Place(l.seed, l.is, key)
		return e == api.ErrArg
	})
	for len(l.keys) < 20 {
		l.keys = append(l.keys, c.going(bookOf(l.seed, l.is)))
	}
}

// P17.6: rows of calls, by several seeds.
func TestLives(t *testing.T) {
	c := chance(28)
	fulls, deleted := 0, 0
	for _, seed := range append(seeds, c.word(), c.word()) {
		for depth := range mostDepth + 1 {
			for first := range 3 {
				l := lifeOf(t, &c, seed, depth, first)
				for range 150 {
					if l.do(&c) == api.ErrFull {
						fulls++
						l.grow(&c)
					}
					if l.is.Can+l.is.Live < mostFill {
						deleted++
					}
					l.hold()
				}
			}
		}
	}
	if fulls < 100 || deleted < 1000 {
		t.Errorf("%d tables are full, %d have deleted slots", fulls, deleted)
	}
}

// P17.6: a new one is never full ahead of 14 keys, whatever these are, and is by then.
func TestNewHasRoom(t *testing.T) {
	c := chance(29)
	for _, seed := range append(seeds, c.word(), c.word()) {
		for n := range 60 {
			depth, first := n%(mostDepth+1), n%3
			l := lifeOf(t, &c, seed, depth, first)
			for at, key := range l.keys[:15] {
				got, _, e := table.Put(seed, l.is, key, key+1)
				if at == mostFill {
					if e != api.ErrFull {
						t.Fatalf("Put of a fifteenth key to %v: %d", l.is, e)
					}
					break
				}
				if e != api.OK {
					t.Fatalf("Put(%v, %d), which is the %d. key: %d", l.is, key, at+1, e)
				}
				l.is, l.has[key] = got, key+1
			}
			l.hold()
			for _, key := range l.keys[:mostFill] {
				got, _, e := table.Drop(seed, l.is, key)
				if l.is = got; e != api.OK {
					t.Fatalf("Drop(%d): %d", key, e)
				}
				delete(l.has, key)
				l.hold()
			}
		}
	}
}

// The chapter's examples.
func TestExamples(t *testing.T) {
	first, e := table.New(0, 0)
	five, at, no := table.Put(5, first, 5, 50)
	if e != api.OK || at != 0 || no != api.OK {
		t.Errorf("Put(5): %d, %d, %d", at, e, no)
	}
	if at, many, e := table.Find(5, five, 5); at != 0 || many != 1 || e != api.OK {
		t.Errorf("Find(5): %d, %d, %d", at, many, e)
	}
	if at, many, e := table.Find(5, five, 6); at != 0 || many != 0 || e != api.ErrNone {
		t.Errorf("Find(6): %d, %d, %d", at, many, e)
	}
	if none, at, e := table.Put(5, five, 5, 51); none != (api.Table{}) || at != 0 || e != api.ErrThere {
		t.Errorf("Put(5), by then: %v, %d, %d", none, at, e)
	}
	set, e := table.Set(5, five, 5, 51)
	if l := table.Pairs(5, set); !slices.Equal(l, []api.Pair{{Key: 5, Value: 51}}) || e != api.OK {
		t.Errorf("Set(5): %v, %d", l, e)
	}
	if drop, at, e := table.Drop(5, set, 5); at != 0 || drop.Live != 0 || drop.Can != 14 || e != api.OK {
		t.Errorf("Drop(5): %v, %d, %d", drop, at, e)
	}
	one, e := table.New(1, 1)
	if none, at, no := table.Put(5, one, 5, 1); none != (api.Table{}) || at != 0 || e != api.OK || no != api.ErrArg {
		t.Errorf("Put(5) elsewhere: %v, %d, %d, %d", none, at, e, no)
	}
	for depth, prefix := range map[int]uint64{6: 0, 1: 2} {
		if none, e := table.New(depth, prefix); none != (api.Table{}) || e != api.ErrArg {
			t.Errorf("New(%d, %d): %v, %d", depth, prefix, none, e)
		}
	}
	if halves, e := table.Halves(5, five); halves[0].Live != 1 || halves[1].Live != 0 || e != api.OK {
		t.Errorf("Halves: %v, %d", halves, e)
	}
	deep, e := table.New(5, 0)
	if none, no := table.Halves(5, deep); none != [2]api.Table{} || e != api.OK || no != api.ErrDeep {
		t.Errorf("Halves of Depth 5: %v, %d, %d", none, e, no)
	}
}
