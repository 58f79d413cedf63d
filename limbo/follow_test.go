package limbo_test

import (
	"slices"
	"testing"

	"honeycomb/api"
	"honeycomb/limbo"
)

// life is a limbo that lives on, and the log of it: what was retired, each in which epoch, and how much of that was taken.
type life struct {
	t       *testing.T
	l       api.Limbo
	retired []api.Entry
	epochs  []uint64
	taken   int
}

func (l *life) retire(e api.Entry) api.Errno {
	next, no := limbo.Retire(l.l, e)
	if no == api.OK {
		l.retired, l.epochs = append(l.retired, e), append(l.epochs, l.l.Epoch)
		l.l = next
	}
	return no
}

func (l *life) advance() api.Errno {
	next, no := limbo.Advance(l.l)
	if no == api.OK {
		if next.Epoch != l.l.Epoch+1 {
			l.t.Fatalf("%v went on to %v", l.l, next)
		}
		l.l = next
	}
	return no
}

func (l *life) take() api.Errno {
	next, one, no := limbo.Take(l.l)
	if no == api.OK {
		if one != l.retired[l.taken] {
			l.t.Fatalf("Take(%v): %v, not %v", l.l, one, l.retired[l.taken])
		}
		l.taken++
		l.l = next
	}
	return no
}

// hold: P14.7 of what it came to.
func (l *life) hold() {
	l.t.Helper()
	if e := limbo.Check(l.l); e != api.OK {
		l.t.Fatalf("%v may not be: %d", l.l, e)
	}
	var ready []api.Entry
	for n := l.taken; n < len(l.retired); n++ {
		if l.l.Epoch > l.epochs[n]+2 {
			l.t.Fatalf("%v was retired in %d, and waits: %v", l.retired[n], l.epochs[n], l.l)
		}
		if l.l.Epoch == l.epochs[n]+2 {
			ready = append(ready, l.retired[n])
		}
		if when, waits := limbo.When(l.l, l.retired[n].Slab); when != l.epochs[n] || !waits {
			l.t.Fatalf("When(%v, %d): %d, %t, not %d", l.l, l.retired[n].Slab, when, waits, l.epochs[n])
		}
	}
	if got := limbo.Ready(l.l); !slices.Equal(got, ready) {
		l.t.Fatalf("Ready(%v): %v, not %v", l.l, got, ready)
	}
	if got := limbo.Held(l.l); !slices.Equal(got, l.retired[l.taken:]) || len(got) != len(l.retired)-l.taken {
		l.t.Fatalf("Held(%v): %v, not %v", l.l, got, l.retired[l.taken:])
	}
}

// P14.7: long lives, at the beginning, and at the end, of all epochs, in which much waits, and in which little does.
func TestLives(t *testing.T) {
	c := chance(23)
	met := map[string]map[api.Errno]int{"retire": {}, "advance": {}, "take": {}}
	for _, epoch := range []uint64{0, 1, 2, 1 << 40, lastEpoch - 60, lastEpoch - 1} {
		for _, many := range []int{1, 3, 30, mostSlabs} {
			for _, often := range []int{1, 5, 60} {
				l := &life{t: t, l: api.Limbo{Epoch: epoch}}
				for range 600 {
					switch n := c.below(often + 4); {
					case n < often:
						met["retire"][l.retire(api.Entry{Slab: c.below(many + 1), Gen: c.word() >> (24 - c.below(2))})]++
					case n == often:
						met["advance"][l.advance()]++
					default:
						met["take"][l.take()]++
					}
					l.hold()
				}
				if l.taken == 0 && epoch < lastEpoch-1 {
					t.Errorf("from %d on, of %d slabs: nothing was ever taken", epoch, many)
				}
			}
		}
	}
	for _, n := range []int{
		met["retire"][api.OK], met["retire"][api.ErrArg], met["retire"][api.ErrThere],
		met["advance"][api.OK], met["advance"][api.ErrReady], met["advance"][api.ErrFull],
		met["take"][api.OK], met["take"][api.ErrNone],
	} {
		if n < 50 {
			t.Errorf("%v: one of these came only %d times", met, n)
		}
	}
}

// P14.7: what was retired is taken once, in the order in which it was, by rows that bring the epoch on.
func TestLivesByRuns(t *testing.T) {
	c := chance(47)
	for _, epoch := range []uint64{0, 5, lastEpoch - 700} {
		l := api.Limbo{Epoch: epoch}
		var retired, taken []api.Entry
		gens := map[int]uint64{}
		for range 200 {
			var steps []api.Entry
			var waits []int
			for _, e := range limbo.Held(l) {
				waits = append(waits, e.Slab)
			}
			for range c.below(8) {
				slab := c.below(mostSlabs)
				if c.below(4) == 0 {
					steps = append(steps, api.Entry{Slab: -1})
				} else if !slices.Contains(waits, slab) {
					gens[slab]++
					waits = append(waits, slab)
					e := api.Entry{Slab: slab, Gen: gens[slab]}
					steps, retired = append(steps, e), append(retired, e)
				}
			}
			next, more, e := limbo.Run(l, steps...)
			if e != api.OK {
				t.Fatalf("Run(%v, %v): %d", l, steps, e)
			}
			l, taken = next, append(taken, more...)
			if held := limbo.Held(l); len(held) != len(retired)-len(taken) || !slices.Equal(slices.Concat(taken, held), retired) {
				t.Fatalf("%v: of %v these were taken: %v", l, retired, taken)
			}
		}
		l, more, e := limbo.Run(l, entries("on on on")...)
		if taken = append(taken, more...); e != api.OK || !slices.Equal(taken, retired) || len(limbo.Held(l)) > 0 {
			t.Errorf("in the end: %v, %d, %d of %d were taken", l, e, len(taken), len(retired))
		}
	}
}

// P14.7: in each epoch: what was retired is not ready in it, nor in the next one, but in the one behind that.
func TestReadyInTime(t *testing.T) {
	for _, epoch := range edges {
		l, e := limbo.Retire(api.Limbo{Epoch: epoch}, entry("9.4"))
		if e != api.OK {
			t.Fatalf("at %d: %d", epoch, e)
		}
		for more := range uint64(3) {
			if epoch+more > lastEpoch {
				break
			}
			if more > 0 {
				l, e = limbo.Advance(l)
			}
			if ready := limbo.Ready(l); e != api.OK || len(ready) > 0 != (more == 2) {
				t.Errorf("retired in %d: in %d is ready: %v, %d", epoch, epoch+more, ready, e)
			}
		}
	}
}
