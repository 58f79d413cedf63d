package monitor_test

import (
	"slices"
	"testing"

	"honeycomb/api"
	"honeycomb/monitor"
)

// holdDo is of monitors that may be.
func holdDo(t *testing.T, m api.Monitor, w api.Watch) api.Errno {
	t.Helper()
	was := copied(m)
	want, wantL, no := runBy(m, []api.Watch{w})
	got, taken, e := monitor.Do(m, w)
	wantOne := api.Entry{}
	if len(wantL) > 0 {
		wantOne = wantL[0]
	}
	if !alone(got, want) || taken != wantOne || e != no || e != api.OK && !nothing(got) {
		t.Fatalf("Do(%v, %v): %v, %v, %d, not %v, %v, %d", m, w, got, taken, e, want, wantL, no)
	}
	if !alone(m, was) {
		t.Fatalf("Do(%v, %v) made it %v", was, w, m)
	}
	if e == api.OK && monitor.Check(got) != api.OK { // P12.5: what comes may be
		t.Fatalf("Do(%v, %v): %v, which may not be", m, w, got)
	}
	return e
}

// P12.2: each Kind, by each goroutine, with what is meant, was, will be, and never is; of entries that are not asked for, too.
func TestDo(t *testing.T) {
	met := map[[2]int]int{}
	for _, m := range small() {
		entries := entriesNear(m)
		for kind := 1; kind <= 8; kind++ {
			for goer := range m.Pinned {
				for n, e := range entries {
					if n < 8 || (n+kind+goer)%5 == 0 {
						no := holdDo(t, m, api.Watch{Kind: kind, Goer: goer, Entry: e})
						met[[2]int{kind, int(no)}]++
					}
				}
			}
		}
	}
	for kind, list := range reasons {
		for _, e := range append(list, why{e: api.OK}) {
			if n := met[[2]int{kind, int(e.e)}]; n < 100 && !(kind%6 < 3 && e.e == api.ErrArg) {
				t.Errorf("the Kind %d came to %d only %d times", kind, e.e, n)
			}
		}
	}
}

// P12.2: monitors of all numbers of goroutines and of slabs, and what is watched by chance.
func TestDoByChance(t *testing.T) {
	c := chance(7)
	for _, m := range wide() {
		for range 200 {
			holdDo(t, m, c.watch(m))
		}
	}
}

// watch is something that can be done, more often than not.
func (c *chance) watch(m api.Monitor) api.Watch {
	w := api.Watch{Kind: 1 + c.below(8), Goer: c.below(len(m.Pinned)), Entry: c.entry(m)}
	if has := m.Has[w.Goer]; len(has) > 0 && c.below(2) == 0 {
		w.Entry = one(c, has)
	}
	switch c.below(60) {
	case 0:
		w.Kind = one(c, noKinds)
	case 1:
		w.Goer = one(c, noGoers(len(m.Pinned)))
	case 2:
		w.Entry = one(c, noEntries())
	}
	return w
}

// P12.2: in numbers.
func TestDoInNumbers(t *testing.T) {
	read3 := []string{"+ 0:5 1:7", "-", "+"}
	for _, c := range []struct {
		slabs string
		goers []string
		w     string
		to    string
		then  []string
		taken string
		e     api.Errno
	}{
		{"l5 r7", read3, "1 pin", "l5 r7", []string{"+ 0:5 1:7", "+", "+"}, "", api.OK},
		{"l5 r7", read3, "0 pin", "", nil, "", api.ErrThere},
		{"l5 r7", read3, "2 pin", "", nil, "", api.ErrThere},
		{"l5 r7", read3, "0 unpin", "l5 r7", []string{"-", "-", "+"}, "", api.OK},
		{"l5 r7", read3, "2 unpin", "l5 r7", []string{"+ 0:5 1:7", "-", "-"}, "", api.OK},
		{"l5 r7", read3, "1 unpin", "", nil, "", api.ErrNone},
		{"l5 r7", read3, "0 get 0:5", "l5 r7", read3, "", api.OK},
		{"l5 r7", read3, "0 get 0:6", "l5 r7", []string{"+ 0:5 1:7 0:6", "-", "+"}, "", api.OK},
		{"l5 r7", read3, "2 get 1:7", "l5 r7", []string{"+ 0:5 1:7", "-", "+ 1:7"}, "", api.OK},
		{"l5 r7", read3, "2 get 2:0", "l5 r7", []string{"+ 0:5 1:7", "-", "+ 2:0"}, "", api.OK},
		{"l5 r7", read3, "2 get 127:^", "l5 r7", []string{"+ 0:5 1:7", "-", "+ 127:^"}, "", api.OK},
		{"l5 r7", read3, "2 get 128:^", "", nil, "", api.ErrArg},
		{"l5 r7", read3, "1 get 0:5", "", nil, "", api.ErrNone},
		{"l5 r7", read3, "1 get 128:5", "", nil, "", api.ErrArg},
		{"l5 r7", read3, "0 take", "", nil, "", api.ErrFull},
		{"l5 r7", read3, "1 take", "", nil, "", api.ErrNone},
		{"l5 r7", read3, "3 take", "", nil, "", api.ErrArg},
		{"l5 f7", read3, "1 take", "", nil, "", api.ErrNone},
		{"l5 f7", read3, "0 take", "l5 l7", read3, "1:7", api.OK}, // it had it ahead of that
		{"l5 f7", read3, "2 take", "l5 l7", []string{"+ 0:5 1:7", "-", "+ 1:7"}, "1:7", api.OK},
		{"f9 f7", read3, "0 take", "l9 f7", []string{"+ 0:5 1:7 0:9", "-", "+"}, "0:9", api.OK},
		{"f0 f7", read3, "2 take", "l0 f7", []string{"+ 0:5 1:7", "-", "+ 0:0"}, "0:0", api.OK},
		{"l5 f^", read3, "2 take", "l5 l^", []string{"+ 0:5 1:7", "-", "+ 1:^"}, "1:^", api.OK},
		{"l5 r7", read3, "1 retire 0:5", "r5 r7", read3, "", api.OK},
		{"l5 r7", read3, "0 retire 1:7", "", nil, "", api.ErrNone},
		{"l5 f7", read3, "0 retire 1:7", "", nil, "", api.ErrNone},
		{"l5 r7", read3, "0 retire 0:4", "", nil, "", api.ErrNone},
		{"l5 r7", read3, "0 retire 2:0", "", nil, "", api.ErrNone},
		{"l5 r7", read3, "0 retire 128:0", "", nil, "", api.ErrArg},
		{"l5 r7", read3, "3 retire 0:5", "", nil, "", api.ErrArg},
		{"l5 l^", read3, "2 retire 1:^", "l5 r^", read3, "", api.OK},
		{"l5 r7", read3, "1 give 0:5", "f6 r7", read3, "", api.OK},
		{"l5 r7", read3, "2 give 1:7", "l5 f8", read3, "", api.OK},
		{"l5 f7", read3, "2 give 1:7", "", nil, "", api.ErrNone},
		{"l5 r7", read3, "2 give 1:8", "", nil, "", api.ErrNone},
		{"l5 r^", read3, "2 give 1:^", "", nil, "", api.ErrFull},
		{"l5 l^", read3, "1 give 1:^", "", nil, "", api.ErrFull},
		{"l5 f^", read3, "2 give 1:^", "", nil, "", api.ErrNone}, // as it is free, ahead of being the last
		{"l5 r1099511627774", read3, "2 give 1:1099511627774", "l5 f^", read3, "", api.OK},
		{"l5 r7", read3, "-1 give 0:5", "", nil, "", api.ErrArg},
		{"l5 r7", read3, "2 give 0:1099511627776", "", nil, "", api.ErrArg},
	} {
		got, taken, e := monitor.Do(read(c.slabs, c.goers...), watch(c.w))
		if !alone(got, read(c.to, c.then...)) || taken != entry(c.taken) || e != c.e {
			t.Errorf("Do(%s, %q, %s): %v, %v, %d, not %s, %q, %s, %d", c.slabs, c.goers, c.w, got, taken, e, c.to, c.then, c.taken, c.e)
		}
	}
}

// P12.2: which touches are bad, in numbers: these are put behind Bad, and all others are not.
func TestTouchesInNumbers(t *testing.T) {
	m := with(read("l5 r7 f9 l^", "+ 0:5 1:7 2:9 3:^ 0:4 0:6 5:0", "+", "-"), watch("1 write 0:5"))
	for w, bad := range map[string]bool{
		"0 read 0:5": false, "0 write 0:5": false, // live
		"0 read 1:7": false, "0 write 1:7": true, // retired
		"0 read 2:9": true, "0 write 2:9": true, // free
		"0 read 3:^": false, "0 write 3:^": false, // of the last generation
		"0 read 0:4": true, "0 write 0:4": true, // given back by then
		"0 read 0:6": true, "0 write 0:6": true, // not taken yet
		"0 read 5:0": true, "0 write 5:0": true, // of no slab
		"0 read 1:6": true, "0 write 3:0": true, // not got
		"1 read 0:5": true, "1 write 0:5": true, "1 read 1:7": true, "1 read 4:0": true, // not got, but by another one
	} {
		want := copied(m)
		if bad {
			want.Bad = append(want.Bad, watch(w))
		}
		if got, taken, e := monitor.Do(m, watch(w)); !alone(got, want) || taken != (api.Entry{}) || e != api.OK {
			t.Errorf("Do(%s): %v, %v, %d", w, got, taken, e)
		}
	}
	for _, w := range []string{"2 read 0:5", "2 write 0:5", "2 read 1:7", "2 read 2:9", "2 write 6:6"} {
		if got, taken, e := monitor.Do(m, watch(w)); !nothing(got) || taken != (api.Entry{}) || e != api.ErrNone {
			t.Errorf("Do(%s), by one that is not Pinned: %v, %v, %d", w, got, taken, e)
		}
	}
}

// P12.2: Bad touches are kept up to MaxBad; one more is done, and not kept.
func TestMostBad(t *testing.T) {
	m := read("f0 l0", "+ 0:0", "+ 1:0")
	var want []api.Watch
	for n := range mostBad + 5 {
		w := api.Watch{Kind: 4 + n%2, Goer: n / 2 % 2, Entry: api.Entry{Slab: n, Gen: 3}}
		next, _, e := monitor.Do(m, w)
		if want = append(want, w); len(want) > mostBad {
			want = want[:mostBad]
		}
		if e != api.OK || !slices.Equal(next.Bad, want) || len(next.Bad) != min(n+1, 16) {
			t.Fatalf("%d bad touches: %v, %d", n+1, next, e)
		}
		m = next
	}
	// What is watched goes on as ever.
	for _, text := range []string{"0 read 0:0", "0 take", "0 read 0:0", "1 retire 1:0", "1 unpin", "1 pin", "0 give 0:0"} {
		next, _, e := monitor.Do(m, watch(text))
		if e != api.OK || !slices.Equal(next.Bad, want) || monitor.Check(next) != api.OK {
			t.Fatalf("%s: %v, %d", text, next, e)
		}
		m = next
	}
	if !alone(m, with(read("f1 r0", "+ 0:0", "+"), want...)) {
		t.Errorf("in the end: %v", m)
	}
}

// P12.2: the same bad touch, again: it is kept as often.
func TestSameBad(t *testing.T) {
	m := read("f0 l0", "+")
	for many := range mostBad + 2 {
		if len(m.Bad) != min(many, mostBad) {
			t.Fatalf("the same bad touch, %d times: %v", many, m.Bad)
		}
		m, _, _ = monitor.Do(m, watch("0 read 1:0"))
	}
}

// P12.2: who is pinned twice, and unpinned twice; what it had is gone.
func TestPinnedTwice(t *testing.T) {
	m := read("l0 f0", "-", "+ 0:0")
	once, _, e := monitor.Do(m, watch("0 pin"))
	if e != api.OK || !alone(once, read("l0 f0", "+", "+ 0:0")) {
		t.Fatalf("pinned: %v, %d", once, e)
	}
	if twice, _, e := monitor.Do(once, watch("0 pin")); !nothing(twice) || e != api.ErrThere {
		t.Errorf("pinned twice: %v, %d", twice, e)
	}
	once, _, e = monitor.Do(m, watch("1 unpin"))
	if e != api.OK || !alone(once, read("l0 f0", "-", "-")) {
		t.Fatalf("unpinned: %v, %d", once, e)
	}
	if twice, _, e := monitor.Do(once, watch("1 unpin")); !nothing(twice) || e != api.ErrNone {
		t.Errorf("unpinned twice: %v, %d", twice, e)
	}
	again, _, e := monitor.Do(once, watch("1 pin"))
	if e != api.OK || !alone(again, read("l0 f0", "-", "+")) {
		t.Errorf("pinned again: %v, %d", again, e)
	}
}

// P12.2: all slabs are taken, the least one first, and one more is asked for.
func TestTakeOfAll(t *testing.T) {
	for _, slabs := range []int{2, 3, 127, 128} {
		m, _ := monitor.New(3, slabs)
		m.Pinned[0], m.Pinned[2] = true, true
		for slab := range slabs {
			next, taken, e := monitor.Do(m, api.Watch{Kind: api.WaTake, Goer: slab % 2 * 2})
			if e != api.OK || taken != (api.Entry{Slab: slab}) || !slices.Contains(next.Has[slab%2*2], taken) {
				t.Fatalf("take %d of %d: %v, %d", slab, slabs, taken, e)
			}
			m = next
		}
		for goer, want := range []api.Errno{api.ErrFull, api.ErrNone, api.ErrFull, api.ErrArg} {
			if got, taken, e := monitor.Do(m, api.Watch{Kind: api.WaTake, Goer: goer}); !nothing(got) || taken != (api.Entry{}) || e != want {
				t.Errorf("one more, by %d: %v, %v, %d, not %d", goer, got, taken, e, want)
			}
		}
	}
}

// P12.2: ErrMonitor goes ahead of all else.
func TestDoOfNoMonitor(t *testing.T) {
	for _, m := range noMonitors() {
		was := copied(m)
		for _, w := range []api.Watch{
			{}, watch("0 pin"), watch("1 pin"), watch("0 unpin"), watch("0 get 0:0"), watch("0 read 0:0"), watch("0 write 1:1"), watch("0 take"), watch("1 take"), watch("0 retire 1:1"), watch("0 give 1:1"),
			watch("-1 pin"), watch("8 take"), watch("0 get 128:0"), {Kind: -1, Goer: -1}, {Kind: 9, Entry: entry("-1:0")},
		} {
			if got, taken, e := monitor.Do(m, w); !nothing(got) || taken != (api.Entry{}) || e != api.ErrMonitor {
				t.Fatalf("Do(%v, %v): %v, %v, %d", m, w, got, taken, e)
			}
		}
		if !alone(m, was) {
			t.Fatalf("%v was made %v", was, m)
		}
	}
}

// P12.2: ErrWatch goes ahead of ErrArg, and of all that the kinds tell.
func TestDoOfNoKind(t *testing.T) {
	m := read("l0 r0 f^", "+ 0:0", "-", "+")
	for _, kind := range noKinds {
		for _, goer := range append(noGoers(3), 0, 1, 2) {
			for _, e := range append(noEntries(), entriesNear(m)...) {
				if got, taken, no := monitor.Do(m, api.Watch{Kind: kind, Goer: goer, Entry: e}); !nothing(got) || taken != (api.Entry{}) || no != api.ErrWatch {
					t.Fatalf("Do(%d, %d, %v): %v, %v, %d", kind, goer, e, got, taken, no)
				}
			}
		}
	}
}

// P12.2: ErrArg of no such goroutine, whatever the Kind, and of what is no entry, where one is asked for; ahead of all that the kinds tell.
func TestDoOfNoGoerAndNoEntry(t *testing.T) {
	for _, m := range []api.Monitor{read("l0 r0 f^", "+ 0:0", "-", "+"), read("l0 l0 l^", "-", "-", "-"), read("f0 f0 f0", "+", "+", "+")} {
		for kind := 1; kind <= 8; kind++ {
			for _, e := range append(noEntries(), entriesNear(m)...) {
				for _, goer := range noGoers(3) {
					if got, taken, no := monitor.Do(m, api.Watch{Kind: kind, Goer: goer, Entry: e}); !nothing(got) || taken != (api.Entry{}) || no != api.ErrArg {
						t.Fatalf("Do(%d, %d, %v): %v, %v, %d", kind, goer, e, got, taken, no)
					}
				}
			}
			for _, e := range noEntries() {
				for goer := range 3 {
					w := api.Watch{Kind: kind, Goer: goer, Entry: e}
					got, taken, no := monitor.Do(m, w)
					if kind == 1 || kind == 2 || kind == 6 { // these ask for none
						w.Entry = api.Entry{}
						want, one, same := monitor.Do(m, w)
						if !alone(got, want) || taken != one || no != same || no == api.ErrArg {
							t.Fatalf("Do(%d, %d, %v): %v, %v, %d", kind, goer, e, got, taken, no)
						}
					} else if !nothing(got) || taken != (api.Entry{}) || no != api.ErrArg {
						t.Fatalf("Do(%d, %d, %v): %v, %v, %d", kind, goer, e, got, taken, no)
					}
				}
			}
		}
	}
}

// spoil changes all that there is in a monitor, and in the room behind its ends.
func spoil(m api.Monitor) {
	for goer := range m.Has {
		row := m.Has[goer][:cap(m.Has[goer])]
		for n := range row {
			row[n] = api.Entry{Slab: 99, Gen: 99}
		}
		m.Has[goer] = nil
	}
	for n := range m.Arena.Slabs[:cap(m.Arena.Slabs)] {
		m.Arena.Slabs[:n+1][n] = api.Slab{Tag: 9, Gen: 99}
	}
	for n := range m.Pinned[:cap(m.Pinned)] {
		m.Pinned[:n+1][n] = !m.Pinned[:n+1][n]
	}
	for n := range m.Bad[:cap(m.Bad)] {
		m.Bad[:n+1][n] = api.Watch{Kind: 9, Goer: 99}
	}
}

// roomy is the same monitor, all rows of which have room behind their ends, with something in it.
func roomy(m api.Monitor) (own, rooms api.Monitor) {
	rooms = copied(m)
	rooms.Arena.Slabs = append(rooms.Arena.Slabs, api.Slab{Tag: 1, Gen: 77}, api.Slab{Tag: 2, Gen: 78})
	rooms.Pinned = append(rooms.Pinned, true, false)
	rooms.Has = append(rooms.Has, list("7:7"), list("8:8"))
	rooms.Bad = append(rooms.Bad, watches("6 read 1:1,7 write 2:2")...)
	own = rooms
	own.Has = slices.Clone(rooms.Has)
	for goer := range m.Has {
		rooms.Has[goer] = append(rooms.Has[goer], list("9:9 10:10")...)
		own.Has[goer] = rooms.Has[goer][:len(m.Has[goer])]
	}
	own.Arena.Slabs, own.Pinned, own.Has, own.Bad = rooms.Arena.Slabs[:len(m.Arena.Slabs)], rooms.Pinned[:len(m.Pinned)], own.Has[:len(m.Has)], rooms.Bad[:len(m.Bad)]
	return own, rooms
}

// P12.2, R3: what is handed in stays as it is, the room behind its ends, too, and is not kept; what is told is memory of its own, and no two rows of it share any.
func TestDoSharesNoMemory(t *testing.T) {
	plain := with(read("l5 r7 f9", "+ 0:5 1:7", "+ 0:5", "-", "+"), watches("0 read 4:4,1 write 1:7")...)
	for _, text := range []string{"2 pin", "0 unpin", "3 unpin", "0 get 0:5", "0 get 2:2", "3 get 0:5", "0 read 0:5", "0 read 2:9", "1 write 3:3", "0 take", "3 take", "0 retire 0:5", "2 give 1:7"} {
		m, rooms := roomy(plain)
		was := copied(rooms)
		got, _, e := monitor.Do(m, watch(text))
		if e != api.OK || !alone(m, plain) {
			t.Fatalf("%s: %v, %d", text, m, e)
		}
		want := copied(got)
		again, _, _ := monitor.Do(m, watch(text))
		spoil(got)
		if !alone(rooms, was) || !alone(again, want) {
			t.Fatalf("%s: what was told is what was handed in, or was told ahead of it: %v, %v", text, rooms, again)
		}
		spoil(rooms)
		if !alone(again, want) {
			t.Fatalf("%s: what was told is what was handed in: %v, not %v", text, again, want)
		}
		for goer := range again.Has { // P12.2, R3: no two rows share any
			again.Has[goer] = append(again.Has[goer], api.Entry{Slab: goer})
			want.Has[goer] = append(want.Has[goer], api.Entry{Slab: goer})
		}
		if !alone(again, want) {
			t.Fatalf("%s: rows share memory: %v, not %v", text, again, want)
		}
	}
}
