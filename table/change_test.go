package table_test

import (
	"testing"

	"honeycomb/api"
	"honeycomb/table"
)

// mayBe is whether what came with an error may be; with one, it is nothing.
func mayBe(seed uint64, t api.Table, e api.Errno) bool {
	if e != api.OK {
		return t == api.Table{}
	}
	return table.Check(seed, t) == api.OK
}

// holdOthers: what the table has, but for one key, is found where it was, with the value that it had (P17.6).
func holdOthers(t *testing.T, s sample, is api.Table, key uint64) {
	t.Helper()
	for n, was := range bookOf(s.seed, s.t).slots {
		if !was.full() || was.key == key {
			continue
		}
		if at, _, e := table.Find(s.seed, is, was.key); at != n || e != api.OK || is.Values[at] != was.value {
			t.Fatalf("%v, then %v: %d is found in %d, %d", s, is, was.key, at, e)
		}
	}
}

func holdPut(t *testing.T, s sample, key, value uint64) api.Errno {
	t.Helper()
	want, wantAt, no := bookOf(s.seed, s.t).putBy(key, value)
	got, at, e := table.Put(s.seed, s.t, key, value)
	if got != want.orNone(no) || at != wantAt || e != no || !mayBe(s.seed, got, e) {
		t.Fatalf("Put(%d, %v, %d, %d): %v, %d, %d, not %v, %d, %d", s.seed, s.t, key, value, got, at, e, want, wantAt, no)
	}
	if e != api.OK {
		return e
	}
	if found, _, e := table.Find(s.seed, got, key); found != at || e != api.OK || got.Values[at] != value { // P17.6
		t.Fatalf("Put(%d, %v, %d, %d): found in %d, %d", s.seed, s.t, key, value, found, e)
	}
	holdOthers(t, s, got, key)
	return e
}

func holdSet(t *testing.T, s sample, key, value uint64) api.Errno {
	t.Helper()
	want, no := bookOf(s.seed, s.t).setBy(key, value)
	got, e := table.Set(s.seed, s.t, key, value)
	if got != want.orNone(no) || e != no || !mayBe(s.seed, got, e) {
		t.Fatalf("Set(%d, %v, %d, %d): %v, %d, not %v, %d", s.seed, s.t, key, value, got, e, want, no)
	}
	if e == api.OK {
		holdOthers(t, s, got, key)
	}
	return e
}

func holdDrop(t *testing.T, s sample, key uint64) api.Errno {
	t.Helper()
	want, wantAt, no := bookOf(s.seed, s.t).dropBy(key)
	got, at, e := table.Drop(s.seed, s.t, key)
	if got != want.orNone(no) || at != wantAt || e != no || !mayBe(s.seed, got, e) {
		t.Fatalf("Drop(%d, %v, %d): %v, %d, %d, not %v, %d, %d", s.seed, s.t, key, got, at, e, want, wantAt, no)
	}
	if e != api.OK {
		return e
	}
	if _, _, e := table.Find(s.seed, got, key); e != api.ErrNone { // P17.6
		t.Fatalf("Drop(%d, %v, %d): Find: %d", s.seed, s.t, key, e)
	}
	holdOthers(t, s, got, key)
	return e
}

// P17.3, P17.4, P17.6: keys of all slots, full or not, and others.
func TestChanges(t *testing.T) {
	c := chance(23)
	put, set, drop := map[api.Errno]int{}, map[api.Errno]int{}, map[api.Errno]int{}
	for n, s := range many() {
		keys := keysFor(s, &c)
		for range 3 {
			key := keys[c.below(len(keys))]
			put[holdPut(t, s, key, uint64(n)<<40)]++
			set[holdSet(t, s, key, uint64(n)<<40)]++
			drop[holdDrop(t, s, key)]++
		}
	}
	for _, e := range []api.Errno{api.OK, api.ErrArg, api.ErrThere, api.ErrFull} {
		if put[e] < 500 {
			t.Errorf("%d is met %d times by Put", e, put[e])
		}
	}
	for _, e := range []api.Errno{api.OK, api.ErrNone} {
		if set[e] < 500 || drop[e] < 500 {
			t.Errorf("%d is met %d times by Set, %d times by Drop", e, set[e], drop[e])
		}
	}
}

// P17.3, P17.4: all keys, on the tables at the edges; and values at theirs.
func TestChangesAtEdges(t *testing.T) {
	c := chance(24)
	for n, s := range some() {
		for _, key := range keysFor(s, &c) {
			value := []uint64{0, 1, 1 << 63, 1<<64 - 1, s.t.Values[n%16]}[n%5]
			holdPut(t, s, key, value)
			holdSet(t, s, key, value)
			holdDrop(t, s, key)
		}
	}
}

// P17.3, P17.4, R2: ErrBad ahead of all else: also of keys that do not go to a table, that it has, and that it has not.
func TestChangesOfNone(t *testing.T) {
	c := chance(25)
	for why, l := range none() {
		for n, s := range l {
			if n%5 > 0 && len(l) > 100 {
				continue
			}
			for _, key := range []uint64{s.t.Keys[n%16], s.t.Keys[n/16%16], c.word()} {
				put, at, e := table.Put(s.seed, s.t, key, 7)
				set, no := table.Set(s.seed, s.t, key, 7)
				if put != (api.Table{}) || at != 0 || e != 270 || set != (api.Table{}) || no != 270 {
					t.Fatalf("of %v, in spite of %s: Put: %v, %d, %d; Set: %v, %d", s, why, put, at, e, set, no)
				}
				if drop, at, e := table.Drop(s.seed, s.t, key); drop != (api.Table{}) || at != 0 || e != 270 {
					t.Fatalf("of %v, in spite of %s: Drop: %v, %d, %d", s, why, drop, at, e)
				}
			}
		}
	}
}

// P17.3: in numbers: sixteen keys, one behind the other, of which the fifteenth can't be put.
func TestPutInNumbers(t *testing.T) {
	got, e := table.New(0, 0)
	got.Count = 6
	for n, c := range []struct {
		hash, one, two uint64
		at             int
	}{
		{a1, 0x8080808080808003, 0x8080808080808080, 0},
		{a2, 0x8080808080800303, 0x8080808080808080, 1},
		{z1, 0x8080808080800303, 0x8080808080808003, 8},
		{other, 0x8080808080040303, 0x8080808080808003, 2},
		{a3, 0x8080808003040303, 0x8080808080808003, 3},
		{a4, 0x8080800303040303, 0x8080808080808003, 4},
		{0x100, 0x8080000303040303, 0x8080808080808003, 5},
		{0x17f, 0x807f000303040303, 0x8080808080808003, 6},
		{a5, 0x037f000303040303, 0x8080808080808003, 7},
		{a6, 0x037f000303040303, 0x8080808080800303, 9},
		{z2, 0x037f000303040303, 0x8080808080030303, 10},
		{a7, 0x037f000303040303, 0x8080808003030303, 11},
		{a8, 0x037f000303040303, 0x8080800303030303, 12},
		{z3, 0x037f000303040303, 0x8080030303030303, 13},
	} {
		want := got
		want.Ctrl, want.Live, want.Can = [2]uint64{c.one, c.two}, n+1, 13-n
		want.Keys[c.at], want.Values[c.at] = by(c.hash), uint64(n)+100
		var at int
		if got, at, e = table.Put(5, got, by(c.hash), uint64(n)+100); got != want || at != c.at || e != api.OK {
			t.Fatalf("Put(%#x): %v, %d, %d, not %v, %d", c.hash, got, at, e, want, c.at)
		}
	}
	for _, c := range []struct {
		hash uint64
		e    api.Errno
	}{{a9, api.ErrFull}, {z4, api.ErrFull}, {a1, api.ErrThere}, {z3, api.ErrThere}, {1 << 63, api.ErrFull}} {
		if none, at, e := table.Put(5, got, by(c.hash), 7); none != (api.Table{}) || at != 0 || e != c.e {
			t.Errorf("Put(%#x) of a table that is full: %v, %d, %d, not %d", c.hash, none, at, e, c.e)
		}
	}
	got.Depth = 2 // to which all these go, too
	for _, h := range []uint64{1 << 63, 1 << 62, 3 << 62, 1<<62 + a1} {
		if none, at, e := table.Put(5, got, by(h), 7); none != (api.Table{}) || at != 0 || e != api.ErrArg {
			t.Errorf("Put(%#x), which goes elsewhere, of a table that is full: %v, %d, %d", h, none, at, e)
		}
	}
}

// change is one of a table, in numbers: what it comes to.
type change struct {
	name      string
	t         api.Table
	hash      uint64
	at        int
	one, two  uint64
	live, can int
	e         api.Errno
}

func (c change) hold(t *testing.T, key, value uint64, got api.Table, at int, e api.Errno) {
	t.Helper()
	want := api.Table{}
	if c.e == api.OK {
		want = c.t
		want.Ctrl, want.Live, want.Can = [2]uint64{c.one, c.two}, c.live, c.can
		want.Keys[c.at], want.Values[c.at] = key, value
	}
	if got != want || at != c.at || e != c.e {
		t.Errorf("%s, %#x: %v, %d, %d, not %v, %d, %d", c.name, c.hash, got, at, e, want, c.at, c.e)
	}
}

// P17.3: in numbers: Can is one less just if the slot was empty.
func TestPutOfDeletedInNumbers(t *testing.T) {
	gone := here(a1, a2, a3, a4, 1, a6, 1, a8, z1, 1, z3, z4, z5)
	for _, c := range []change{
		{"a deleted one", gone, a9, 4, 0x03fe030303030303, 0x808080030303fe03, 11, 1, api.OK},
		{"a deleted one", gone, z6, 9, 0x03fe03fe03030303, 0x8080800303030303, 11, 1, api.OK},
		{"what was in it", gone, a5, 4, 0x03fe030303030303, 0x808080030303fe03, 11, 1, api.OK},
		{"an empty one", here(a1, 0, 1), a2, 1, 0x8080808080fe0303, 0x8080808080808080, 2, 11, api.OK},
		{"a deleted one ahead of an empty one", here(a1, 1, 0), a2, 1, 0x8080808080800303, 0x8080808080808080, 2, 12, api.OK},
		{"the last deleted one, Can 0", here(a1, a2, a3, a4, a5, a6, a7, 1, z1, z2, z3, z4, z5, z6), a8, 7, 0x0303030303030303, 0x8080030303030303, 14, 0, api.OK},
		{"an empty one, Can 0", here(a1, a2, a3, a4, a5, a6, a7, 1, z1, z2, z3, z4, z5, z6), z7, 0, 0, 0, 0, 0, api.ErrFull},
		{"the last empty one, Can 1", here(a1, a2, a3, a4, a5, a6, a7, 1, z1, z2, z3, z4, z5), z7, 13, 0xfe03030303030303, 0x8080030303030303, 13, 0, api.OK},
		{"what it has, Can 0", here(a1, a2, a3, a4, a5, a6, a7, 1, z1, z2, z3, z4, z5, z6), a7, 0, 0, 0, 0, 0, api.ErrThere},
	} {
		got, at, e := table.Put(5, c.t, by(c.hash), 99)
		c.hold(t, by(c.hash), 99, got, at, e)
	}
}

// P17.4: in numbers: Can is one more just if the slot is empty then; key and value stay.
func TestDropInNumbers(t *testing.T) {
	full := here(a1, a2, a3, a4, a5, a6, a7, a8, a9, z1, z2)
	crowd := here(a1, a2, a3, a4, a5, a6, a7, 0, z1, 1, z3, z4, z5, z6, 0, z8)
	for _, c := range []change{
		{"the only one", here(a1), a1, 0, 0x8080808080808080, 0x8080808080808080, 0, 14, api.OK},
		{"the first one", here(a1, a2, a3), a1, 0, 0x8080808080030380, 0x8080808080808080, 2, 12, api.OK},
		{"one of a group that does not stop", full, a1, 0, 0x03030303030303fe, 0x8080808080030303, 10, 3, api.OK},
		{"one of a group that does not stop", full, a8, 7, 0xfe03030303030303, 0x8080808080030303, 10, 3, api.OK},
		{"one in the second group of its row", full, a9, 8, 0x0303030303030303, 0x8080808080030380, 10, 4, api.OK},
		{"one behind it", full, z1, 9, 0x0303030303030303, 0x8080808080038003, 10, 4, api.OK},
		{"the one behind the others", full, z2, 10, 0x0303030303030303, 0x8080808080800303, 10, 4, api.OK},
		{"one that it has not", full, a10, 0, 0, 0, 0, 0, api.ErrNone},
		{"one that it has not", full, z3, 0, 0, 0, 0, 0, api.ErrNone},
		{"none", here(), a1, 0, 0, 0, 0, 0, api.ErrNone},
		{"one of a group with one that is empty", crowd, a7, 6, 0x8080030303030303, 0x038003030303fe03, 12, 1, api.OK},
		{"one of a group with a deleted one", crowd, z8, 15, 0x8003030303030303, 0x808003030303fe03, 12, 1, api.OK},
		{"one that is deleted", crowd, z2, 0, 0, 0, 0, 0, api.ErrNone},
		{"one of a group all others of which are deleted", here(1, 1, 1, 1, 1, 1, 1, a8, 1), a8, 7, 0xfefefefefefefefe, 0x80808080808080fe, 0, 5, api.OK},
	} {
		if c.e == api.OK && c.t.Keys[c.at] != by(c.hash) {
			t.Fatalf("%s: the slot %d has %d", c.name, c.at, c.t.Keys[c.at])
		}
		got, at, e := table.Drop(5, c.t, by(c.hash))
		c.hold(t, by(c.hash), c.hash+1, got, at, e)
	}
}

// P17.4: in numbers.
func TestSetInNumbers(t *testing.T) {
	full := here(a1, a2, a3, a4, a5, a6, a7, a8, a9, z1, z2)
	stale := full
	stale.Keys[12] = by(a10)
	for _, c := range []struct {
		t    api.Table
		hash uint64
		at   int
		e    api.Errno
	}{
		{full, a1, 0, api.OK},
		{full, a8, 7, api.OK},
		{full, a9, 8, api.OK},
		{full, z2, 10, api.OK},
		{full, a10, 0, api.ErrNone},
		{full, 0, 0, api.ErrNone},
		{stale, a10, 0, api.ErrNone},
		{here(1, a1), a1, 1, api.OK},
		{here(), a1, 0, api.ErrNone},
	} {
		for _, value := range []uint64{0, 1, c.hash + 1, 1 << 63, 1<<64 - 1} {
			want := api.Table{}
			if c.e == api.OK {
				want = c.t
				want.Values[c.at] = value
			}
			if got, e := table.Set(5, c.t, by(c.hash), value); got != want || e != c.e {
				t.Errorf("Set(%v, %#x, %d): %v, %d, not %v, %d", c.t, c.hash, value, got, e, want, c.e)
			}
		}
	}
}

// P17.4: keys that go elsewhere are not there.
func TestChangesElsewhere(t *testing.T) {
	at := here(a1, a2, a3)
	at.Depth, at.Prefix = 1, 0
	for _, h := range []uint64{1 << 63, 1<<63 + a1, 1<<64 - 1} {
		if got, e := table.Set(5, at, by(h), 7); got != (api.Table{}) || e != api.ErrNone {
			t.Errorf("Set(%#x): %v, %d", h, got, e)
		}
		if got, slot, e := table.Drop(5, at, by(h)); got != (api.Table{}) || slot != 0 || e != api.ErrNone {
			t.Errorf("Drop(%#x): %v, %d, %d", h, got, slot, e)
		}
		if got, slot, e := table.Put(5, at, by(h), 7); got != (api.Table{}) || slot != 0 || e != api.ErrArg {
			t.Errorf("Put(%#x): %v, %d, %d", h, got, slot, e)
		}
	}
}
