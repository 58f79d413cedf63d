package limbo_test

import (
	"math"
	"slices"
	"testing"

	"honeycomb/api"
	"honeycomb/limbo"
)

// P14.1
func TestNew(t *testing.T) {
	if l := limbo.New(); !alone(l, api.Limbo{}) || limbo.Check(l) != api.OK {
		t.Errorf("New: %v", l)
	}
}

// P14.1, R3: what New tells is new each time.
func TestNewIsNew(t *testing.T) {
	l := limbo.New()
	l.Epoch = 7
	for n := range l.Rows {
		l.Rows[n] = append(l.Rows[n], api.Entry{Slab: 5})
	}
	if l := limbo.New(); !alone(l, api.Limbo{}) {
		t.Errorf("New, again: %v", l)
	}
}

// P14.1: ErrLimbo, or OK.
func TestCheck(t *testing.T) {
	for _, l := range append(small(), wide()...) {
		if e := limbo.Check(l); e != api.OK {
			t.Fatalf("Check(%v): %d, not OK", l, e)
		}
	}
	for _, l := range noLimbos() {
		was := copied(l)
		if e := limbo.Check(l); e != api.ErrLimbo {
			t.Fatalf("Check(%v): %d, not ErrLimbo", l, e)
		}
		if !alone(l, was) {
			t.Fatalf("%v was made %v", was, l)
		}
	}
}

// P14.1: in numbers, row by row.
func TestCheckInNumbers(t *testing.T) {
	for _, c := range []struct {
		epoch   uint64
		a, b, c string
		may     bool
	}{
		{0, "", "", "", true},
		{0, "0", "", "", true},
		{0, "0.^ 127.^", "", "", true},
		{0, "", "0", "", false},
		{0, "", "", "0", false},
		{0, "0", "1", "2", false},
		{1, "", "", "", true},
		{1, "4", "5", "", true},
		{1, "4", "5", "6", false},
		{1, "", "", "6", false},
		{2, "4", "5", "6", true},
		{3, "4", "5", "6", true},
		{2, "4 5", "5", "6", false},
		{2, "4", "5.1", "5.2", false},
		{2, "6", "5", "6", false},
		{2, "4 4", "", "", false},
		{2, "4.1 5 4.2", "", "", false},
		{3, "", "9 8 9", "", false},
		{3, "", "", "9 9", false},
		{3, "127.^", "126.^", "0", true},
		{3, "128", "", "", false},
		{3, "", "128.^", "", false},
		{3, "", "", "-1", false},
		{3, "0.^+1", "", "", false},
		{3, "", "0.^+1", "", false},
		{3, "", "", "127.^+1", false},
		{3, "", "1 2 3.18446744073709551615 4", "", false},
		{lastEpoch - 1, "1", "2", "3", true},
		{lastEpoch, "1", "2", "3", true},
		{lastEpoch, "", "", "", true},
		{lastEpoch + 1, "", "", "", false},
		{lastEpoch + 2, "1", "2", "3", false},
		{math.MaxUint64, "", "", "", false},
	} {
		l := api.Limbo{Epoch: c.epoch, Rows: [3][]api.Entry{entries(c.a), entries(c.b), entries(c.c)}}
		if e := limbo.Check(l); (e == api.OK) != c.may || !c.may && e != 240 {
			t.Errorf("Check(%v): %d", l, e)
		}
	}
}

// P14.1: all pairs of few limbos; those that may not be are asked as they stand, too.
func TestSame(t *testing.T) {
	var l []api.Limbo
	for n, one := range append(append(small(), wide()...), noLimbos()...) {
		if n%11 == 0 {
			l = append(l, one)
		}
	}
	for n, one := range l {
		if !limbo.Same(one, copied(one)) {
			t.Fatalf("%v is not the same as itself", one)
		}
		for _, other := range l[:n] {
			if want := alone(one, other); limbo.Same(one, other) != want || limbo.Same(other, one) != want {
				t.Fatalf("Same(%v, %v), not %t", one, other, want)
			}
		}
	}
}

// P14.1: whatever part is another one, they are not the same; whether they may be, or not.
func TestSameOfEachPart(t *testing.T) {
	for _, l := range []api.Limbo{{}, {Epoch: 3}, read("5: 1 2.7; 3; 4 5.^ 6"), read("^: ; 1; 2"), with(with(api.Limbo{Epoch: math.MaxUint64}, 1, 0, api.Entry{Slab: -3}), 2, 0, api.Entry{Slab: 200, Gen: 1 << 50})} {
		var others []api.Limbo
		other := func(change func(l *api.Limbo)) {
			o := copied(l)
			change(&o)
			others = append(others, o)
		}
		for bit := range 64 {
			other(func(l *api.Limbo) { l.Epoch ^= 1 << bit })
			for n, row := range l.Rows {
				for place := range row {
					other(func(l *api.Limbo) { l.Rows[n][place].Gen ^= 1 << bit })
					other(func(l *api.Limbo) { l.Rows[n][place].Slab ^= 1 << bit })
				}
			}
		}
		for n, row := range l.Rows {
			for place := range row {
				other(func(l *api.Limbo) { l.Rows[n] = slices.Delete(l.Rows[n], place, place+1) })
				other(func(l *api.Limbo) { l.Rows[(n+1)%3], l.Rows[n] = append(l.Rows[(n+1)%3], row[place:]...), row[:place] })
			}
			if len(row) > 1 {
				other(func(l *api.Limbo) { slices.Reverse(l.Rows[n]) })
			}
			other(func(l *api.Limbo) { l.Rows[n] = append(l.Rows[n], api.Entry{}) })
			other(func(l *api.Limbo) { l.Rows[n] = slices.Insert(l.Rows[n], 0, api.Entry{Slab: 1}) })
		}
		for _, o := range others {
			if limbo.Same(l, o) || limbo.Same(o, l) {
				t.Errorf("Same(%v, %v)", l, o)
			}
		}
	}
}

// P14.1, R3: nil and empty lists are one, whatever room is behind them.
func TestSameOfNilAndEmpty(t *testing.T) {
	var l []api.Limbo
	for _, row := range [][]api.Entry{nil, {}, entries("1 2")[:0]} {
		l = append(l, api.Limbo{Epoch: 4, Rows: [3][]api.Entry{row, entries("5"), row}})
	}
	for _, one := range l {
		for _, other := range l {
			if !limbo.Same(one, other) || limbo.Check(one) != api.OK {
				t.Errorf("%v and %v are not the same", one, other)
			}
		}
	}
	own, _ := roomy(l[0])
	if !limbo.Same(own, l[0]) || !limbo.Same(l[0], own) || limbo.Check(own) != api.OK {
		t.Errorf("%v and %v are not the same", own, l[0])
	}
}

// P14.2 to P14.6: the chapter's examples.
func TestExamples(t *testing.T) {
	a, b, c := api.Entry{Slab: 1}, api.Entry{Slab: 2}, api.Entry{Slab: 3}
	on := api.Entry{Slab: -1}
	l := limbo.New()
	then := func(next api.Limbo, e api.Errno) {
		t.Helper()
		if e != api.OK {
			t.Fatalf("%d", e)
		}
		l = next
	}
	then(limbo.Retire(l, a))
	then(limbo.Advance(l))
	then(limbo.Retire(l, b))
	then(limbo.Advance(l))
	if ready := limbo.Ready(l); !slices.Equal(ready, []api.Entry{a}) {
		t.Errorf("Ready: %v", ready)
	}
	if none, e := limbo.Advance(l); !nothing(none) || e != api.ErrReady {
		t.Errorf("Advance again: %v, %d", none, e)
	}
	next, first, e := limbo.Take(l)
	if l = next; first != a || e != api.OK {
		t.Errorf("Take: %v, %d", first, e)
	}
	then(limbo.Advance(l))
	when, waits := limbo.When(l, 2)
	if ready, held := limbo.Ready(l), limbo.Held(l); !slices.Equal(ready, []api.Entry{b}) || !slices.Equal(held, []api.Entry{b}) || when != 1 || !waits {
		t.Errorf("Ready: %v; Held: %v; When: %d, %t", ready, held, when, waits)
	}
	if l, taken, e := limbo.Run(limbo.New(), a, on, b, on, c, on, on, on); !alone(l, api.Limbo{Epoch: 5}) || !slices.Equal(taken, []api.Entry{a, b, c}) || e != api.OK {
		t.Errorf("Run: %v, %v, %d", l, taken, e)
	}
	l, _ = limbo.Retire(limbo.New(), a)
	if none, e := limbo.Retire(l, a); !nothing(none) || e != api.ErrThere {
		t.Errorf("Retire a twice: %v, %d", none, e)
	}
	if none, e := limbo.Retire(l, api.Entry{Slab: 128}); !nothing(none) || e != api.ErrArg {
		t.Errorf("Retire of the slab 128: %v, %d", none, e)
	}
}
