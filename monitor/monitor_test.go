package monitor_test

import (
	"math"
	"slices"
	"testing"

	"honeycomb/api"
	"honeycomb/monitor"
)

// P12.1: each number of goroutines, and of slabs, that there may be.
func TestNew(t *testing.T) {
	for goers := 1; goers <= mostGoers; goers++ {
		for slabs := 2; slabs <= mostSlabs; slabs++ {
			m, e := monitor.New(goers, slabs)
			want := api.Monitor{Arena: api.Arena{Slabs: make([]api.Slab, slabs)}, Pinned: make([]bool, goers), Has: make([][]api.Entry, goers)}
			if e != api.OK || !alone(m, want) || monitor.Check(m) != api.OK {
				t.Fatalf("New(%d, %d): %v, %d", goers, slabs, m, e)
			}
		}
	}
}

// P12.1: the edges beyond, of either number, and of both.
func TestNewOfNone(t *testing.T) {
	noSlabs := []int{1, 0, -1, -2, 129, 130, 256, 1 << 32, 1<<32 + 2, -1 << 32, math.MinInt, math.MaxInt}
	for _, goers := range append(noGoers(8), 0, -7, 10, 256, 1<<32+8) {
		if goers == 8 {
			continue
		}
		for _, slabs := range append([]int{2, 3, 128}, noSlabs...) {
			if m, e := monitor.New(goers, slabs); !nothing(m) || e != api.ErrArg {
				t.Errorf("New(%d, %d): %v, %d, not ErrArg", goers, slabs, m, e)
			}
		}
	}
	for goers := 1; goers <= mostGoers; goers++ {
		for _, slabs := range noSlabs {
			if m, e := monitor.New(goers, slabs); !nothing(m) || e != api.ErrArg {
				t.Errorf("New(%d, %d): %v, %d, not ErrArg", goers, slabs, m, e)
			}
		}
	}
}

// P12.1, R3: what New tells is new each time, and no part of it is another one's.
func TestNewIsNew(t *testing.T) {
	m, _ := monitor.New(2, 3)
	m.Has[0] = append(m.Has[0], entry("1:1"))
	m.Has[1] = append(m.Has[1], entry("2:2"))
	m.Arena.Slabs[1], m.Pinned[0], m.Bad = api.Slab{Tag: 2, Gen: 9}, true, append(m.Bad, watch("0 read 1:1"))
	if !alone(m, with(read("f0 r9 f0", "+ 1:1", "- 2:2"), watch("0 read 1:1"))) {
		t.Errorf("New, changed: %v", m)
	}
	if m, e := monitor.New(2, 3); e != api.OK || !alone(m, read("f0 f0 f0", "-", "-")) {
		t.Errorf("New, again: %v, %d", m, e)
	}
}

// P12.1: ErrMonitor, or OK.
func TestCheck(t *testing.T) {
	for _, m := range append(small(), wide()...) {
		if e := monitor.Check(m); e != api.OK {
			t.Fatalf("Check(%v): %d, not OK", m, e)
		}
	}
	for _, m := range noMonitors() {
		if e := monitor.Check(m); e != api.ErrMonitor {
			t.Fatalf("Check(%v): %d, not ErrMonitor", m, e)
		}
	}
}

// P12.1: how many goroutines there may be, how many of them have a row, and how many bad touches.
func TestCheckOfEachNumber(t *testing.T) {
	for pinned := range 12 {
		for has := range 12 {
			m := api.Monitor{Arena: read("f0 f0").Arena, Pinned: make([]bool, pinned), Has: make([][]api.Entry, has)}
			if got, want := monitor.Check(m) == api.OK, pinned == has && pinned >= 1 && pinned <= 8; got != want {
				t.Errorf("Check of %d and %d goroutines: %t", pinned, has, got)
			}
		}
	}
	for bad := range 40 {
		m := with(read("f0 l0", "-", "+"), touches(bad, 2)...)
		if got, want := monitor.Check(m) == api.OK, bad <= 16; got != want {
			t.Errorf("Check of %d bad touches: %t", bad, got)
		}
	}
}

// P12.1: what one has: whatever is an entry, whether it is meant or not, each once; another one may have it, too.
func TestCheckOfHas(t *testing.T) {
	for _, c := range []struct {
		slabs string
		goers []string
		may   bool
	}{
		{"f0 f0", []string{"-"}, true},
		{"f0 f0", []string{"+"}, true},
		{"f0 f0", []string{"+ 0:0"}, true},
		{"f0 f0", []string{"- 0:0"}, false},
		{"l0 l0", []string{"- 0:0"}, false},
		{"f0 f0", []string{"+ 0:0 1:0 0:1 1:1 0:^ 127:0 127:^ 2:0"}, true},
		{"f0 f0", []string{"+ 0:0 0:0"}, false},
		{"f0 f0", []string{"+ 0:0 1:0 0:1 0:0"}, false},
		{"f0 f0", []string{"+ 5:0 0:1 0:2 0:1 7:0"}, false},
		{"f0 f0", []string{"+ 0:0 1:0 2:0 2:0"}, false},
		{"f0 f0", []string{"+ 0:0", "+ 0:0", "+ 0:0"}, true},
		{"f0 f0", []string{"+ 0:0", "+ 0:0", "+ 0:0 1:1 1:1"}, false},
		{"f0 f0", []string{"+ 0:0 0:0", "+ 0:0", "+ 0:0"}, false},
		{"f0 f0", []string{"+ 0:0", "-", "- 1:0"}, false},
		{"f0 f0", []string{"+ 128:0"}, false},
		{"f0 f0", []string{"+ -1:0"}, false},
		{"f0 f0", []string{"+ 0:1099511627776"}, false},
		{"f0 f0", []string{"+ 0:0 0:18446744073709551615"}, false},
		{"f0 f0", []string{"-", "+", "-", "+", "-", "+", "-", "+ 1:1"}, true},
		{"f0 f0", []string{"-", "+", "-", "+", "-", "+", "-", "- 1:1"}, false},
		{"f0 f0", []string{"-", "+", "-", "+", "-", "+", "-", "+", "-"}, false},
		{"f0", []string{"+ 0:0"}, false},
	} {
		if got := monitor.Check(read(c.slabs, c.goers...)); (got == api.OK) != c.may || !c.may && got != api.ErrMonitor {
			t.Errorf("Check(%s, %q): %d", c.slabs, c.goers, got)
		}
	}
}

// P12.1: each touch of those that Bad holds, in its turn: each Kind, goroutine, and entry at the edges.
func TestCheckOfBad(t *testing.T) {
	entries := append(list("0:0 1:0 2:0 0:^ 127:0 127:^"), noEntries()...)
	for place := range mostBad {
		for kind := -1; kind <= 10; kind++ {
			for goer := -1; goer <= 3; goer++ {
				for _, e := range entries {
					m := with(read("f0 l0", "-", "+", "-"), touches(mostBad, 3)...)
					m.Bad[place] = api.Watch{Kind: kind, Goer: goer, Entry: e}
					want := (kind == 4 || kind == 5) && goer >= 0 && goer <= 2 && isEntryBy(e)
					if got := monitor.Check(m) == api.OK; got != want {
						t.Fatalf("Check, %v at %d of Bad: %t", m.Bad[place], place, got)
					}
				}
			}
		}
	}
}

// P12.1: a long row of what one has, all different but, in the end, for one.
func TestCheckOfLongRow(t *testing.T) {
	m := read("f0 f0", "+", "-")
	for n := range 100000 {
		m.Has[0] = append(m.Has[0], api.Entry{Slab: n % 128, Gen: uint64(n / 128)})
	}
	if e := monitor.Check(m); e != api.OK {
		t.Errorf("Check: %d", e)
	}
	m.Has[0] = append(m.Has[0], m.Has[0][77777])
	if e := monitor.Check(m); e != api.ErrMonitor {
		t.Errorf("Check, one being there twice: %d", e)
	}
}

// P12.1: all pairs of few monitors; those that may not be are asked as they stand, too.
func TestSame(t *testing.T) {
	var l []api.Monitor
	for n, m := range append(small(), wide()...) {
		if n%11 == 0 {
			l = append(l, m)
		}
	}
	for n, m := range noMonitors() {
		if n%3 == 0 {
			l = append(l, m)
		}
	}
	for n, m := range l {
		if !monitor.Same(m, copied(m)) {
			t.Fatalf("%v is not the same as itself", m)
		}
		for _, other := range l[:n] {
			if want := alone(m, other); monitor.Same(m, other) != want || monitor.Same(other, m) != want {
				t.Fatalf("Same(%v, %v), not %t", m, other, want)
			}
		}
	}
}

// otherParts are monitors of which each has one part that is another one than this one's.
func otherParts(m api.Monitor) (l []api.Monitor) {
	other := func(change func(m *api.Monitor)) {
		n := copied(m)
		change(&n)
		l = append(l, n)
	}
	for slab := range m.Arena.Slabs {
		other(func(m *api.Monitor) { m.Arena.Slabs[slab].Tag ^= 1 })
		other(func(m *api.Monitor) { m.Arena.Slabs[slab].Gen ^= 1 << (slab % 64) })
	}
	other(func(m *api.Monitor) { m.Arena.Slabs = append(m.Arena.Slabs, api.Slab{}) })
	for goer := range m.Pinned {
		other(func(m *api.Monitor) { m.Pinned[goer] = !m.Pinned[goer] })
	}
	for goer := range m.Has {
		other(func(m *api.Monitor) { m.Has[goer] = append(m.Has[goer], api.Entry{}) })
		for n := range m.Has[goer] {
			other(func(m *api.Monitor) { m.Has[goer][n].Slab++ })
			other(func(m *api.Monitor) { m.Has[goer][n].Gen++ })
			other(func(m *api.Monitor) { m.Has[goer] = slices.Delete(m.Has[goer], n, n+1) })
		}
		if len(m.Has[goer]) > 1 {
			other(func(m *api.Monitor) { m.Has[goer][0], m.Has[goer][1] = m.Has[goer][1], m.Has[goer][0] })
		}
	}
	other(func(m *api.Monitor) { m.Pinned = append(m.Pinned, false) })
	other(func(m *api.Monitor) { m.Has = append(m.Has, nil) })
	other(func(m *api.Monitor) { m.Pinned, m.Has = append(m.Pinned, false), append(m.Has, nil) })
	for n := range m.Bad {
		other(func(m *api.Monitor) { m.Bad[n].Kind ^= 1 })
		other(func(m *api.Monitor) { m.Bad[n].Goer++ })
		other(func(m *api.Monitor) { m.Bad[n].Entry.Slab++ })
		other(func(m *api.Monitor) { m.Bad[n].Entry.Gen++ })
	}
	other(func(m *api.Monitor) { m.Bad = append(m.Bad, api.Watch{}) })
	return l
}

// P12.1: whatever part is another one, they are not the same; whether they may be, or not.
func TestSameOfEachPart(t *testing.T) {
	l := []api.Monitor{
		{},
		read("f0 f0", "-"),
		with(read("l3 r4 f5", "+ 0:3 1:4 7:0", "-", "+ 1:4"), watches("0 read 7:0,2 write 1:4")...),
		with(read("f0", "- 0:3 9:9 0:3", "- 9:9"), watches("8 read 200:0,9 give 7:7")...),
		{Pinned: []bool{true, false}, Has: [][]api.Entry{list("1:1 2:2")}},
	}
	for _, m := range append(l, wide()[100:200]...) {
		for _, other := range otherParts(m) {
			if alone(m, other) || monitor.Same(m, other) || monitor.Same(other, m) {
				t.Fatalf("Same(%v, %v)", m, other)
			}
		}
	}
}

// P12.1, R3: nil and empty lists are one, whatever room is behind them.
func TestSameOfNilAndEmpty(t *testing.T) {
	l := []api.Monitor{
		{},
		{Arena: api.Arena{Slabs: []api.Slab{}}, Pinned: []bool{}, Has: [][]api.Entry{}, Bad: []api.Watch{}},
		{Arena: api.Arena{Slabs: make([]api.Slab, 0, 2)}, Pinned: make([]bool, 0, 2), Has: make([][]api.Entry, 0, 2), Bad: make([]api.Watch, 0, 2)},
	}
	for _, m := range l {
		for _, n := range l {
			if !monitor.Same(m, n) {
				t.Errorf("%v and %v are not the same", m, n)
			}
		}
	}
	m, n := read("l0 f1", "+", "-", "+ 0:0"), read("l0 f1", "+", "-", "+ 0:0")
	m.Has[0], m.Has[1], n.Has[0], n.Has[1] = nil, []api.Entry{}, []api.Entry{}, make([]api.Entry, 0, 3)
	n.Has[2], n.Bad = list("0:0 1:1")[:1], touches(3, 3)[:0]
	n.Arena.Slabs, n.Pinned = append(n.Arena.Slabs, api.Slab{Tag: 2})[:2], append(n.Pinned, true)[:3]
	if !monitor.Same(m, n) || !monitor.Same(n, m) || monitor.Check(m) != api.OK || monitor.Check(n) != api.OK {
		t.Errorf("%v and %v are not the same, or may not be", m, n)
	}
}

// P12.1 to P12.4: the chapter's examples.
func TestExamples(t *testing.T) {
	m, e := monitor.New(2, 2)
	if e != api.OK {
		t.Fatalf("New(2, 2): %d", e)
	}
	do := func(w api.Watch, want api.Entry) {
		t.Helper()
		next, got, e := monitor.Do(m, w)
		if e != api.OK || got != want {
			t.Fatalf("Do(%v): %v, %d, not %v", w, got, e, want)
		}
		m = next
	}
	it := api.Entry{Slab: 0, Gen: 0}
	do(api.Watch{Kind: api.WaPin, Goer: 0}, api.Entry{})
	do(api.Watch{Kind: api.WaTake, Goer: 0}, it)
	do(api.Watch{Kind: api.WaPin, Goer: 1}, api.Entry{})
	do(api.Watch{Kind: api.WaGet, Goer: 1, Entry: it}, api.Entry{})
	reads, writes := api.Watch{Kind: api.WaRead, Goer: 1, Entry: it}, api.Watch{Kind: api.WaWrite, Goer: 1, Entry: it}
	if !monitor.Good(m, reads) || !slices.Equal(monitor.Holders(m, it), []int{0, 1}) || monitor.Safe(m, it) {
		t.Errorf("got: %t, %v, %t", monitor.Good(m, reads), monitor.Holders(m, it), monitor.Safe(m, it))
	}
	do(api.Watch{Kind: api.WaRetire, Goer: 0, Entry: it}, api.Entry{})
	if monitor.Good(m, writes) || !monitor.Good(m, reads) {
		t.Errorf("retired: writes %t, reads %t", monitor.Good(m, writes), monitor.Good(m, reads))
	}
	do(api.Watch{Kind: api.WaGive, Goer: 0, Entry: it}, api.Entry{})
	do(api.Watch{Kind: api.WaTake, Goer: 0}, api.Entry{Slab: 0, Gen: 1})
	do(reads, api.Entry{})
	if !slices.Equal(m.Bad, []api.Watch{reads}) {
		t.Errorf("Bad: %v", m.Bad)
	}
	do(api.Watch{Kind: api.WaUnpin, Goer: 1}, api.Entry{})
	if again, one, e := monitor.Do(m, api.Watch{Kind: api.WaUnpin, Goer: 1}); !nothing(again) || one != (api.Entry{}) || e != api.ErrNone {
		t.Errorf("WaUnpin, again: %v, %v, %d", again, one, e)
	}
}
