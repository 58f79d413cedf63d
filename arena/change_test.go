package arena_test

import (
	"math"
	"slices"
	"testing"

	"honeycomb/api"
	"honeycomb/arena"
)

// change is Retire, or Give, and what the document says of it.
type change struct {
	name string
	do   func(a api.Arena, l ...api.Entry) (api.Arena, api.Errno)
	by   func(r rows, l []api.Entry) (rows, api.Errno)
}

func changes() []change {
	return []change{{"Retire", arena.Retire, rows.retireBy}, {"Give", arena.Give, rows.giveBy}}
}

func (c change) hold(t *testing.T, a api.Arena, l ...api.Entry) {
	t.Helper()
	was, wasL := copied(a), slices.Clone(l)
	want, no := c.by(rowsOf(a), l)
	got, e := c.do(a, l...)
	if !alone(got, want.arena()) || e != no {
		t.Fatalf("%s(%v, %v): %v, %d, not %v, %d", c.name, a, l, got, e, want, no)
	}
	if !alone(a, was) || !slices.Equal(l, wasL) {
		t.Fatalf("%s(%v, %v): what was handed in is %v, %v", c.name, was, wasL, a, l)
	}
	if e == api.OK && arena.Check(got) != api.OK { // P11.5: what comes may be
		t.Fatalf("%s(%v, %v): %v, which may not be", c.name, a, l, got)
	}
}

// P11.3: of all small arenas each entry that is meant, those beside it, and those that there are no slabs for.
func TestChangeOfOne(t *testing.T) {
	for _, c := range changes() {
		for _, a := range append(small(), wide()...) {
			for _, e := range entriesNear(a) {
				c.hold(t, a, e)
			}
		}
	}
}

// P11.3: no entries, whatever the arena.
func TestChangeOfNone(t *testing.T) {
	for _, c := range changes() {
		for _, a := range append(small(), wide()...) {
			c.hold(t, a)
			c.hold(t, a, []api.Entry{}...)
		}
	}
}

// P11.3: each two entries, the same one twice among them, and good ones ahead of bad ones, and behind; and what the one was made by the other.
func TestChangeOfTwo(t *testing.T) {
	for _, c := range changes() {
		for n, a := range small() {
			if len(a.Slabs) == 3 && n%11 != 0 {
				continue
			}
			l := []api.Entry{{Slab: -1}, {Slab: len(a.Slabs)}}
			for slab, s := range a.Slabs {
				for _, gen := range []uint64{s.Gen, s.Gen + 1, s.Gen - 1} {
					l = append(l, api.Entry{Slab: slab, Gen: gen})
				}
			}
			for _, one := range l {
				for _, two := range l {
					c.hold(t, a, one, two)
				}
			}
		}
	}
}

// P11.3: several entries by chance, most of them such as can be done.
func TestChangeOfSeveral(t *testing.T) {
	c := chance(5)
	for _, change := range changes() {
		done := 0
		for range 4000 {
			a := c.arena(2 + c.below(127))
			r := rowsOf(a)
			l := r.entriesBy('l')
			if change.name == "Give" {
				l = append(r.entriesBy('r'), l...)
				if c.below(4) > 0 {
					l = slices.DeleteFunc(l, func(e api.Entry) bool { return e.Gen == lastGen })
				}
			}
			for n := range l {
				to := n + c.below(len(l)-n)
				l[n], l[to] = l[to], l[n]
			}
			l = l[:c.below(len(l)+1)]
			if near := entriesNear(a); c.below(3) == 0 {
				l = slices.Insert(l, c.below(len(l)+1), near[c.below(len(near))])
			}
			change.hold(t, a, l...)
			if _, e := change.do(a, l...); e == api.OK && len(l) > 1 {
				done++
			}
		}
		if done < 1000 || done > 3900 {
			t.Errorf("%s: %d of 4000 were done", change.name, done)
		}
	}
}

// P11.3: all slabs of the most that there are, from the first on, and from the last on.
func TestChangeOfAll(t *testing.T) {
	for _, c := range changes() {
		for tag := range 3 {
			a := alike(128, tag, 9)
			l := rowsOf(a).entriesBy(letters[tag])
			c.hold(t, a, l...)
			slices.Reverse(l)
			c.hold(t, a, l...)
			c.hold(t, a, append(l, l[0])...)
		}
	}
}

// P11.3, R2: ErrArena goes ahead of all else, also of no entries.
func TestChangeOfNoArena(t *testing.T) {
	for _, c := range changes() {
		for _, a := range noArenas() {
			l := []api.Entry{{Slab: -1}, {Slab: len(a.Slabs)}, {}, {Gen: 5}, {Slab: 1, Gen: 5}, {Slab: math.MaxInt, Gen: math.MaxUint64}}
			if len(a.Slabs) > 0 {
				l = append(l, api.Entry{Gen: a.Slabs[0].Gen}, api.Entry{Slab: len(a.Slabs) - 1, Gen: lastGen})
			}
			for n := range l {
				if got, e := c.do(a, l[n]); got.Slabs != nil || e != api.ErrArena {
					t.Fatalf("%s(%v, %v): %v, %d", c.name, a, l[n], got, e)
				}
			}
			for _, l := range [][]api.Entry{nil, {}, l} {
				if got, e := c.do(a, l...); got.Slabs != nil || e != api.ErrArena {
					t.Fatalf("%s(%v, %v): %v, %d", c.name, a, l, got, e)
				}
			}
		}
	}
}

// P11.3: in numbers; of what is free ErrNone, its Gen being the last one or not.
func TestChangeInNumbers(t *testing.T) {
	for _, c := range []struct {
		slabs, l     string
		retire, give string // empty, if there is an error
		no, none     api.Errno
	}{
		{"l7 r8 f9", "", "l7 r8 f9", "l7 r8 f9", api.OK, api.OK},
		{"l7 r8 f9", "0:7", "r7 r8 f9", "f8 r8 f9", api.OK, api.OK},
		{"l7 r8 f9", "1:8", "", "l7 f9 f9", api.ErrNone, api.OK},
		{"l7 r8 f9", "2:9", "", "", api.ErrNone, api.ErrNone},
		{"l7 r8 f9", "0:6", "", "", api.ErrNone, api.ErrNone},
		{"l7 r8 f9", "0:8", "", "", api.ErrNone, api.ErrNone},
		{"l7 r8 f9", "-1:7", "", "", api.ErrNone, api.ErrNone},
		{"l7 r8 f9", "3:7", "", "", api.ErrNone, api.ErrNone},
		{"l7 r8 f9", "3:0", "", "", api.ErrNone, api.ErrNone},
		{"l7 r8 f9", "0:7 0:7", "", "", api.ErrNone, api.ErrNone},
		{"l7 r8 f9", "0:7 0:8", "", "", api.ErrNone, api.ErrNone}, // the slab is free, and has that Gen
		{"l7 r8 f9", "0:7 1:8", "", "f8 f9 f9", api.ErrNone, api.OK},
		{"l7 r8 f9", "1:8 0:7", "", "f8 f9 f9", api.ErrNone, api.OK},
		{"l7 l8 l9", "2:9 0:7", "r7 l8 r9", "f8 l8 f10", api.OK, api.OK},
		{"l7 l8 l9", "2:9 0:7 1:9", "", "", api.ErrNone, api.ErrNone},
		{"l^ r^ f^", "0:^", "r^ r^ f^", "", api.OK, api.ErrFull},
		{"l^ r^ f^", "1:^", "", "", api.ErrNone, api.ErrFull},
		{"l^ r^ f^", "2:^", "", "", api.ErrNone, api.ErrNone},
		{"l^ r^ f^", "0:0", "", "", api.ErrNone, api.ErrNone},
		{"l^ r^ f^", "0:1099511627776", "", "", api.ErrNone, api.ErrNone},
		{"l7 r^", "0:7 1:^", "", "", api.ErrNone, api.ErrFull},
		{"l7 r^", "0:6 1:^", "", "", api.ErrNone, api.ErrNone}, // the first part that is wrong
		{"l7 r^", "1:^ 0:6", "", "", api.ErrNone, api.ErrFull},
		{"l1099511627774 l^", "0:1099511627774", "r1099511627774 l^", "f^ l^", api.OK, api.OK},
		{"l0 l0", "0:0 1:0", "r0 r0", "f1 f1", api.OK, api.OK},
	} {
		a, l := read(c.slabs), list(c.l)
		if got, e := arena.Retire(a, l...); !alone(got, read(c.retire)) || e != c.no {
			t.Errorf("Retire(%s; %s): %v, %d, not %s, %d", c.slabs, c.l, got, e, c.retire, c.no)
		}
		if got, e := arena.Give(a, l...); !alone(got, read(c.give)) || e != c.none {
			t.Errorf("Give(%s; %s): %v, %d, not %s, %d", c.slabs, c.l, got, e, c.give, c.none)
		}
	}
}

// P11.3, P11.5: so many are the same as one behind the other.
func TestChangeOneByOne(t *testing.T) {
	for _, c := range changes() {
		for _, a := range wide() {
			l := rowsOf(a).entriesBy('l')
			if c.name == "Give" {
				l = slices.DeleteFunc(append(l, rowsOf(a).entriesBy('r')...), func(e api.Entry) bool { return e.Gen == lastGen })
			}
			one := copied(a)
			for _, entry := range l {
				next, e := c.do(one, entry)
				if e != api.OK {
					t.Fatalf("%s(%v, %v): %d", c.name, one, entry, e)
				}
				one = next
			}
			if all, e := c.do(a, l...); !alone(all, one) || e != api.OK {
				t.Fatalf("%s(%v, %v): %v, %d, not %v", c.name, a, l, all, e, one)
			}
		}
	}
}

// P11.3, R1: very many entries end, too.
func TestChangeOfVeryMany(t *testing.T) {
	for _, c := range changes() {
		if got, e := c.do(alike(128, 1, 0), make([]api.Entry, 1<<20)...); got.Slabs != nil || e != api.ErrNone {
			t.Errorf("%s of very many: %v, %d", c.name, got, e)
		}
	}
}

// P11.3, R3: what is handed in stays as it is, the room behind its end, too, and is not kept; what is told is new.
func TestChangeSharesNoMemory(t *testing.T) {
	for _, c := range changes() {
		for many := range 4 {
			slabs, l := read("l3 l4 l5 l6 f7"), list("0:3 2:5 1:4 3:6")
			was, wasL := copied(slabs), slices.Clone(l)
			a := api.Arena{Slabs: slabs.Slabs[:3]}
			want, _ := c.by(rowsOf(a), l[:many])
			got, e := c.do(a, l[:many]...)
			if e != api.OK {
				t.Fatalf("%s of %d: %d", c.name, many, e)
			}
			again, _ := c.do(a, l[:many]...)
			got.Slabs = append(got.Slabs, api.Slab{Tag: 2, Gen: 99})
			clear(got.Slabs)
			if !alone(slabs, was) || !slices.Equal(l, wasL) {
				t.Fatalf("%s of %d: %v, %v, not %v, %v", c.name, many, slabs, l, was, wasL)
			}
			clear(slabs.Slabs)
			clear(l)
			if !alone(again, want.arena()) {
				t.Errorf("%s of %d, again: %v, not %v", c.name, many, again, want)
			}
		}
	}
}
