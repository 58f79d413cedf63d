package monitor_test

import (
	"math"
	"slices"
	"testing"

	"honeycomb/api"
	"honeycomb/monitor"
)

// P12.4: each Kind, by each goroutine, with what is meant, was, will be, and never is.
func TestGood(t *testing.T) {
	goods := 0
	for _, m := range append(small(), wide()...) {
		b := bookOf(m)
		entries := entriesNear(m)
		entries = entries[:len(entries)-len(noEntries())+3]
		for _, row := range m.Has {
			entries = append(entries, row...)
		}
		for kind := 3; kind <= 6; kind++ {
			for goer := -1; goer <= len(m.Pinned); goer++ {
				for _, e := range entries {
					w := api.Watch{Kind: kind, Goer: goer, Entry: e}
					want := (kind == 4 || kind == 5) && goer >= 0 && goer < len(m.Pinned) && b.goodBy(w)
					if got := monitor.Good(m, w); got != want {
						t.Fatalf("Good(%v, %v): %t", m, w, got)
					}
					if want {
						goods++
					}
				}
			}
		}
	}
	if goods < 1000 {
		t.Errorf("only %d were good", goods)
	}
}

// P12.4: in numbers.
func TestGoodInNumbers(t *testing.T) {
	m := read("l0 r7 f9 l^ r^", "+ 0:0 1:7 2:9 3:^ 4:^ 0:1 1:6 5:0", "+", "-")
	for text, want := range map[string]bool{
		"0 read 0:0": true, "0 write 0:0": true,
		"0 read 1:7": true, "0 write 1:7": false,
		"0 read 2:9": false, "0 write 2:9": false,
		"0 read 3:^": true, "0 write 3:^": true,
		"0 read 4:^": true, "0 write 4:^": false,
		"0 read 0:1": false, "0 write 0:1": false,
		"0 read 1:6": false, "0 read 1:8": false, "0 read 5:0": false, "0 write 5:0": false,
		"1 read 0:0": false, "1 write 0:0": false, "1 read 1:7": false,
		"2 read 0:0": false, "2 write 0:0": false, "2 read 4:^": false,
		"3 read 0:0": false, "-1 read 0:0": false, "-1 write 0:0": false,
		"0 pin 0:0": false, "0 unpin 0:0": false, "0 get 0:0": false, "0 take 0:0": false, "0 retire 0:0": false, "0 give 0:0": false,
		"0 read 128:0": false, "0 read -1:0": false,
	} {
		if got := monitor.Good(m, watch(text)); got != want {
			t.Errorf("Good(%s): %t", text, got)
		}
	}
	for _, kind := range noKinds {
		if monitor.Good(m, api.Watch{Kind: kind}) {
			t.Errorf("Good of the Kind %d", kind)
		}
	}
	for _, goer := range noGoers(3) {
		for kind := 4; kind <= 5; kind++ {
			if monitor.Good(m, api.Watch{Kind: kind, Goer: goer}) {
				t.Errorf("Good of the goroutine %d", goer)
			}
		}
	}
}

// P12.4, P12.2: what is good is just what is not put behind Bad.
func TestGoodIsNotBad(t *testing.T) {
	c := chance(41)
	for _, m := range wide() {
		if len(m.Bad) == mostBad {
			continue
		}
		for range 100 {
			w := c.watch(m)
			w.Kind = 4 + c.below(2)
			next, _, e := monitor.Do(m, w)
			if e == api.OK && monitor.Good(m, w) != (len(next.Bad) == len(m.Bad)) || e != api.OK && monitor.Good(m, w) {
				t.Fatalf("Good(%v, %v): %t; Do: %v, %d", m, w, monitor.Good(m, w), next, e)
			}
		}
	}
}

// P12.4: who has what is meant, was, will be, never is; none, one, or all of them.
func TestHoldersAndSafe(t *testing.T) {
	many := map[int]int{}
	for _, m := range append(small(), wide()...) {
		b := bookOf(m)
		entries := entriesNear(m)
		for _, row := range m.Has {
			entries = append(entries, row...)
		}
		for _, e := range entries {
			want := b.holdersBy(e)
			if got := monitor.Holders(m, e); !slices.Equal(got, want) {
				t.Fatalf("Holders(%v, %v): %v, not %v", m, e, got, want)
			}
			if got := monitor.Safe(m, e); got != b.safeBy(e) {
				t.Fatalf("Safe(%v, %v): %t", m, e, got)
			}
			many[len(want)]++
		}
	}
	if many[0] == 0 || many[1] == 0 || many[2] == 0 {
		t.Errorf("so many held something: %v", many)
	}
}

// P12.4: in numbers.
func TestHoldersInNumbers(t *testing.T) {
	m := read("l0 r7 f9", "+ 0:0 1:7", "-", "+ 1:7 2:9 0:1", "+ 100:3 1:7", "+", "-", "+ 0:0 1:7", "+ 1:7")
	for text, want := range map[string][]int{
		"0:0": {0, 6}, "1:7": {0, 2, 3, 6, 7}, "2:9": {2}, "0:1": {2}, "100:3": {3},
		"1:6": nil, "2:0": nil, "100:4": nil, "99:3": nil, "0:^": nil, "128:0": nil, "-1:0": nil,
	} {
		if got := monitor.Holders(m, entry(text)); !slices.Equal(got, want) {
			t.Errorf("Holders(%s): %v, not %v", text, got, want)
		}
	}
	for goers := 1; goers <= mostGoers; goers++ {
		all, none := read("l0 f0"), read("l0 f0")
		var rising []int
		for goer := range goers {
			all.Pinned, all.Has = append(all.Pinned, true), append(all.Has, list("1:1 0:0"))
			none.Pinned, none.Has = append(none.Pinned, true), append(none.Has, list("1:1 0:1"))
			rising = append(rising, goer)
		}
		if got := monitor.Holders(all, entry("0:0")); !slices.Equal(got, rising) {
			t.Errorf("Holders of all: %v, not %v", got, rising)
		}
		if got := monitor.Holders(none, entry("0:0")); len(got) != 0 {
			t.Errorf("Holders of none: %v", got)
		}
		if monitor.Safe(all, entry("0:0")) || !monitor.Safe(none, entry("0:0")) {
			t.Errorf("%d goroutines: Safe is %t, %t", goers, monitor.Safe(all, entry("0:0")), monitor.Safe(none, entry("0:0")))
		}
	}
}

// P12.4: in numbers: what is held, what is not, and what is free; of the last generation, too, though that can't be given back.
func TestSafeInNumbers(t *testing.T) {
	m := read("l0 r7 f9 l1 r2 f3 l^ r^", "+ 0:0 1:7 2:9 3:0 3:2", "-", "+ 0:0 4:3")
	for text, want := range map[string]bool{
		"0:0": false, "1:7": false, "2:9": false, // held
		"3:1": true, "4:2": true, "5:3": false, // not held, and live, retired, free
		"6:^": true, "7:^": true,
		"3:0": false, "3:2": false, "4:3": false, "4:1": false, "5:2": false, "5:4": false, // of another generation
		"8:0": false, "127:^": false, "128:0": false, "-1:0": false, "3:1099511627777": false,
	} {
		if got := monitor.Safe(m, entry(text)); got != want {
			t.Errorf("Safe(%s): %t", text, got)
		}
	}
}

// P12.4: of what may not be nothing is told, whatever is asked.
func TestLooksOfNoMonitor(t *testing.T) {
	entries := list("0:0 1:1 2:2 5:5 1:0 128:0")
	for _, m := range noMonitors() {
		was := copied(m)
		for _, e := range entries {
			for goer := -1; goer <= 4; goer++ {
				for kind := 0; kind <= 9; kind++ {
					if monitor.Good(m, api.Watch{Kind: kind, Goer: goer, Entry: e}) {
						t.Fatalf("Good(%v, %d, %d, %v)", m, kind, goer, e)
					}
				}
			}
			if l := monitor.Holders(m, e); len(l) != 0 || monitor.Safe(m, e) {
				t.Fatalf("%v: Holders(%v): %v; Safe: %t", m, e, l, monitor.Safe(m, e))
			}
		}
		if !alone(m, was) {
			t.Fatalf("%v was made %v", was, m)
		}
	}
}

// P12.4, R3: what only looks at a monitor leaves it, and the room behind its ends, and does not look at that; what is told is new.
func TestLooksLeaveTheMonitor(t *testing.T) {
	m, rooms := roomy(with(read("l5 r7 f9", "+ 0:5", "+ 0:5 1:7", "-"), watch("0 read 4:4")))
	was := copied(rooms)
	if monitor.Check(m) != api.OK || !monitor.Same(m, m) || !monitor.Good(m, watch("0 read 0:5")) {
		t.Errorf("Check, Same, or Good of %v", m)
	}
	for _, text := range []string{"7:7", "8:8", "9:9", "10:10"} { // in the room behind the ends
		if l := monitor.Holders(m, entry(text)); len(l) != 0 {
			t.Errorf("Holders(%s): %v", text, l)
		}
	}
	for _, e := range []api.Entry{{Slab: 3, Gen: 77}, {Slab: 4, Gen: 78}} {
		if monitor.Safe(m, e) {
			t.Errorf("Safe(%v)", e)
		}
	}
	if monitor.Good(m, watch("3 read 7:7")) || monitor.Good(m, api.Watch{Kind: 4, Goer: math.MaxInt}) {
		t.Error("Good by one in the room behind the end")
	}
	got := monitor.Holders(m, entry("0:5"))
	again := monitor.Holders(m, entry("0:5"))
	got = append(got, 7)
	clear(got)
	if !slices.Equal(again, []int{0, 1}) || !slices.Equal(monitor.Holders(m, entry("0:5")), []int{0, 1}) {
		t.Errorf("Holders, again: %v", again)
	}
	if !alone(rooms, was) {
		t.Errorf("the monitor is %v, not %v", rooms, was)
	}
}
