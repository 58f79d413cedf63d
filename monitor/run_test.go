package monitor_test

import (
	"slices"
	"testing"

	"honeycomb/api"
	"honeycomb/monitor"
)

// holdRun is of monitors that may be.
func holdRun(t *testing.T, m api.Monitor, l ...api.Watch) api.Errno {
	t.Helper()
	was, wasL := copied(m), slices.Clone(l)
	want, wantTaken, no := runBy(m, l)
	got, taken, e := monitor.Run(m, l...)
	if !alone(got, want) || !slices.Equal(taken, wantTaken) || e != no || e != api.OK && (!nothing(got) || taken != nil) {
		t.Fatalf("Run(%v, %v): %v, %v, %d, not %v, %v, %d", m, l, got, taken, e, want, wantTaken, no)
	}
	if !alone(m, was) || !slices.Equal(l, wasL) {
		t.Fatalf("Run(%v, %v): what was handed in is %v, %v", was, wasL, m, l)
	}
	if e == api.OK && monitor.Check(got) != api.OK { // P12.5: what comes may be
		t.Fatalf("Run(%v, %v): %v, which may not be", m, l, got)
	}
	return e
}

// oneByOne is Do of each, up to the first one that has an error.
func oneByOne(m api.Monitor, l []api.Watch) (api.Monitor, []api.Entry, api.Errno) {
	var row []api.Entry
	for _, w := range l {
		next, taken, e := monitor.Do(m, w)
		if e != api.OK {
			return api.Monitor{}, nil, e
		}
		if m = next; w.Kind == api.WaTake {
			row = append(row, taken)
		}
	}
	return m, row, api.OK
}

// goods are so many by chance, none of which has an error.
func (c *chance) goods(m api.Monitor, many int) (l []api.Watch) {
	b := bookOf(m)
	for len(l) < many {
		w := c.watch(m)
		if e, found := b.leastFree(); found && c.below(2) == 0 {
			w.Entry = e
		}
		if _, e := b.doBy(w); e == api.OK {
			l = append(l, w)
		}
	}
	return l
}

// P12.3: rows by chance, none of which has an error; and the same ones, with an error at the first, in the middle, at the last, and behind it.
func TestRun(t *testing.T) {
	c := chance(31)
	errs := map[api.Errno]int{}
	for _, m := range append(wide(), small()[:300]...) {
		l := c.goods(m, 1+c.below(30))
		if e := holdRun(t, m, l...); e != api.OK {
			t.Fatalf("Run(%v, %v): %d", m, l, e)
		}
		for _, at := range []int{0, 1, len(l) / 2, len(l) - 1, len(l)} {
			w := c.watch(m)
			if c.below(3) == 0 {
				w.Kind = 1 + c.below(2)
			}
			errs[holdRun(t, m, slices.Insert(slices.Clone(l), at, w)...)]++
			got, taken, e := monitor.Run(m, l[:at]...)
			want, row, no := oneByOne(m, l[:at])
			if !alone(got, want) || !slices.Equal(taken, row) || e != no {
				t.Fatalf("Run(%v, %v): %v, %v, %d, not %v, %v, %d", m, l[:at], got, taken, e, want, row, no)
			}
		}
	}
	for _, e := range []api.Errno{api.OK, api.ErrArg, api.ErrFull, api.ErrNone, api.ErrThere, api.ErrWatch} {
		if errs[e] < 5 {
			t.Errorf("%d came only %d times", e, errs[e])
		}
	}
}

// P12.3: in numbers.
func TestRunInNumbers(t *testing.T) {
	for _, c := range []struct {
		slabs string
		goers []string
		l     string
		to    string
		then  []string
		bad   string
		taken string
		e     api.Errno
	}{
		{"f0 f0", []string{"-"}, "", "f0 f0", []string{"-"}, "", "", api.OK},
		{"f0 f0", []string{"-", "-"}, "0 pin,0 take,0 take,1 pin", "l0 l0", []string{"+ 0:0 1:0", "+"}, "", "0:0 1:0", api.OK},
		{"f0 f0", []string{"-"}, "0 pin,0 take,0 unpin", "l0 f0", []string{"-"}, "", "0:0", api.OK},
		{"f0 f0", []string{"-"}, "0 pin,0 take,0 unpin,0 pin,0 read 0:0", "l0 f0", []string{"+"}, "0 read 0:0", "0:0", api.OK},
		{"f0 f0", []string{"-", "+"}, "0 pin,0 take,1 get 0:0,0 retire 0:0,1 read 0:0,1 write 0:0", "r0 f0", []string{"+ 0:0", "+ 0:0"}, "1 write 0:0", "0:0", api.OK},
		{"f0 f0", []string{"+"}, "0 take,0 give 0:0,0 take,0 take,0 read 0:0,0 read 0:1", "l1 l0", []string{"+ 0:0 0:1 1:0"}, "0 read 0:0", "0:0 0:1 1:0", api.OK},
		{"f0 f0", []string{"+"}, "0 get 0:1,0 take,0 give 0:0,0 take", "l1 f0", []string{"+ 0:1 0:0"}, "", "0:0 0:1", api.OK},
		{"f0 f0", []string{"-"}, "0 take,0 pin", "", nil, "", "", api.ErrNone},
		{"f0 f0", []string{"-"}, "0 pin,0 pin,0 take", "", nil, "", "", api.ErrThere},
		{"f0 f0", []string{"-"}, "0 pin,0 take,0 take,0 take", "", nil, "", "", api.ErrFull},
		{"f0 f0", []string{"-"}, "0 pin,0 take,1 take,0 get 128:0", "", nil, "", "", api.ErrArg},
		{"f0 f0", []string{"+"}, "0 take,0 retire 0:0,0 retire 0:0,2 pin", "", nil, "", "", api.ErrNone},
		{"f0 r^", []string{"+"}, "0 pin,0 give 1:^", "", nil, "", "", api.ErrThere},
		{"f0 r^", []string{"+"}, "0 give 1:^,0 pin", "", nil, "", "", api.ErrFull},
	} {
		m := read(c.slabs, c.goers...)
		got, taken, e := monitor.Run(m, watches(c.l)...)
		want := read(c.to, c.then...)
		want.Bad = watches(c.bad)
		if !alone(got, want) || !slices.Equal(taken, list(c.taken)) || e != c.e {
			t.Errorf("Run(%s, %q, %s): %v, %v, %d, not %s, %q, %s, %s, %d", c.slabs, c.goers, c.l, got, taken, e, c.to, c.then, c.bad, c.taken, c.e)
		}
	}
}

// P12.3: the error of the first one that has one is told, whichever ones the others behind it have.
func TestRunOfSeveralErrors(t *testing.T) {
	m := read("l0 f^", "+ 0:0", "-")
	for e, w := range map[api.Errno]api.Watch{
		api.ErrWatch: {Kind: 9, Goer: 5},
		api.ErrArg:   {Kind: api.WaPin, Goer: 2},
		api.ErrNone:  watch("1 take"),
		api.ErrThere: watch("0 pin"),
	} {
		for _, other := range []api.Watch{{Kind: 0}, {Kind: api.WaGet, Entry: entry("0:0"), Goer: -1}, watch("1 unpin"), watch("0 pin"), watch("0 retire 1:^")} {
			for _, l := range [][]api.Watch{{w, other}, {watch("0 take"), w, other}, {watch("0 take"), watch("1 pin"), watch("1 unpin"), w, other, watch("0 unpin")}} {
				if got, taken, no := monitor.Run(m, l...); !nothing(got) || taken != nil || no != e {
					t.Errorf("Run(%v): %v, %v, %d, not %d", l, got, taken, no, e)
				}
			}
		}
	}
}

// P12.3: the empty row leaves a monitor as it is; ErrMonitor, if it may not be, of no row, too, and ahead of all that a row has.
func TestRunOfNone(t *testing.T) {
	for _, m := range append(small(), wide()...) {
		holdRun(t, m)
		holdRun(t, m, []api.Watch{}...)
	}
	for _, m := range noMonitors() {
		was := copied(m)
		for _, l := range [][]api.Watch{nil, {}, {{}}, watches("0 pin,0 unpin"), watches("1 pin"), {{Kind: 9}, {Kind: 1, Goer: -1}}, watches("-1 pin,0 take")} {
			if got, taken, e := monitor.Run(m, l...); !nothing(got) || taken != nil || e != api.ErrMonitor {
				t.Fatalf("Run(%v, %v): %v, %v, %d", m, l, got, taken, e)
			}
		}
		if !alone(m, was) {
			t.Fatalf("%v was made %v", was, m)
		}
	}
}

// P12.3, R3: what is handed in stays as it is, the room behind its ends, too, and is not kept; what is told is memory of its own.
func TestRunSharesNoMemory(t *testing.T) {
	plain := with(read("f5 r7 f9", "+ 0:4 1:7", "+ 0:5", "-", "+"), watches("0 read 4:4,1 write 1:7")...)
	for _, text := range []string{"", "0 take", "0 take,0 take,2 pin", "0 take,3 get 0:5,3 read 0:5,3 write 2:2,1 unpin,1 pin,1 get 2:2,0 give 0:5"} {
		m, rooms := roomy(plain)
		was, l := copied(rooms), watches(text+",0 unpin,0 pin")
		wasL := slices.Clone(l)
		row := l[:len(l)-2]
		got, taken, e := monitor.Run(m, row...)
		want, wantTaken, _ := runBy(plain, row)
		if e != api.OK || !alone(got, want) || !alone(m, plain) {
			t.Fatalf("%s: %v, %v, %d", text, got, m, e)
		}
		again, takenAgain, _ := monitor.Run(m, row...)
		spoil(got)
		taken = append(taken, entry("9:9"))
		clear(taken)
		if !alone(rooms, was) || !slices.Equal(l, wasL) || !alone(again, want) || !slices.Equal(takenAgain, wantTaken) {
			t.Fatalf("%s: what was told is what was handed in, or was told ahead of it: %v, %v, %v, %v", text, rooms, l, again, takenAgain)
		}
		spoil(rooms)
		clear(l)
		if !alone(again, want) {
			t.Fatalf("%s: what was told is what was handed in: %v, not %v", text, again, want)
		}
		clear(takenAgain)
		if !alone(again, want) {
			t.Fatalf("%s: what was taken is what is had: %v, not %v", text, again, want)
		}
	}
}
