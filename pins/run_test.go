package pins_test

import (
	"slices"
	"testing"

	"honeycomb/api"
	"honeycomb/pins"
)

// holdRun is of pins that may be.
func holdRun(t *testing.T, p api.Pins, l []api.PinOp) (int, api.Errno) {
	t.Helper()
	was, wasL := copied(p), slices.Clone(l)
	want, wantPassed, no := runBy(p, l)
	got, passed, e := pins.Run(p, l...)
	if e != no || passed != wantPassed || !alone(got, want) || e != api.OK && !nothing(got) {
		t.Fatalf("Run(%v, %v): %v, %d, %d, not %v, %d, %d", p, l, got, passed, e, want, wantPassed, no)
	}
	if !alone(p, was) || !slices.Equal(l, wasL) {
		t.Fatalf("Run(%v, %v) made them %v, %v", was, wasL, p, l)
	}
	if e == api.OK && pins.Check(got) != api.OK { // P13.5: what comes may be
		t.Fatalf("Run(%v, %v): %v, which may not be", p, l, got)
	}
	return passed, e
}

// P13.3: rows of one op, and of two, at the edges.
func TestRunOfFew(t *testing.T) {
	for n, p := range small() {
		holdRun(t, p, nil)
		var l []api.PinOp
		for goer := range p.Slots {
			for _, by := range []uint64{0, 1, p.Epoch, p.Epoch + 1} {
				l = append(l, api.PinOp{Kind: 1, Goer: goer, By: by})
			}
			l = append(l, api.PinOp{Kind: 2, Goer: goer})
		}
		l = append(l, op("go"), op("-1 go"), op("-1 pin"), op("0 none"), api.PinOp{Kind: 2, Goer: len(p.Slots)})
		for _, o := range l {
			holdRun(t, p, []api.PinOp{o})
			if n%3 == 0 {
				for _, other := range l {
					holdRun(t, p, []api.PinOp{o, other})
				}
			}
		}
	}
}

// op is one that can be done, more often than not.
func (c *chance) op(p api.Pins) api.PinOp {
	o := api.PinOp{Kind: 1 + c.below(3), Goer: c.below(len(p.Slots)), By: one(c, []uint64{0, 0, 0, 0, 1, 2, p.Epoch / 2, p.Epoch})}
	switch c.below(150) {
	case 0:
		o.Kind = one(c, noKinds)
	case 1:
		o.Goer = one(c, noGoers(len(p.Slots)))
	case 2:
		o.By = one(c, farBys(p.Epoch))
	}
	return o
}

// P13.3: long rows, by chance.
func TestRunByChance(t *testing.T) {
	c := chance(31)
	met, passes := map[api.Errno]int{}, map[int]int{}
	for _, p := range append(wide(), wide()...) {
		var l []api.PinOp
		for range c.below(60) {
			l = append(l, c.op(p))
		}
		passed, e := holdRun(t, p, l)
		met[e]++
		passes[passed]++
	}
	if met[api.OK] < 300 || met[api.ErrArg] < 100 || len(passes) < 20 {
		t.Errorf("errors %v, passed over %v", met, passes)
	}
}

// P13.3: in numbers: the first, one in the middle, or the last can't be done, or has ErrArg.
func TestRunInNumbers(t *testing.T) {
	for _, c := range []struct {
		from, ops, to string
		passed        int
		e             api.Errno
	}{
		{"5 - 5", "", "5 - 5", 0, api.OK},
		{"5 - 4", "", "5 - 4", 0, api.OK},
		{"5 - 5", "0 pin,go,1 unpin", "6 5 -", 0, api.OK},
		{"5 - 5", "1 pin,0 pin,go", "6 5 5", 1, api.OK},
		{"5 - 5", "go,go,1 unpin", "6 - -", 1, api.OK},
		{"5 - 5", "0 pin,go,go", "6 5 5", 1, api.OK},
		{"5 - 5", "go,go,go,go", "6 - 5", 3, api.OK},
		{"5 - 5", "go,go,1 unpin,go,go,go", "9 - -", 1, api.OK},
		{"5 - 5", "0 unpin,0 pin 6,1 pin,1 pin 6,0 unpin", "5 - 5", 5, api.OK},
		{"5 - 5", "1 pin 3", "5 - 5", 1, api.OK}, // what is passed over changes nothing
		{"5 - 5", "0 pin 6,0 pin 5,0 pin 4", "5 0 5", 2, api.OK},
		{"5 - 5", "0 pin,go,0 unpin,0 pin 2,1 unpin,go,0 unpin,go", "7 - -", 1, api.OK},
		{"^-1 - -", "go,go,go", "^ - -", 2, api.OK},
		{"^-1 - ^-1", "go,go,1 unpin,go", "^ - -", 2, api.OK},
		{"5 - 5", "-1 pin,0 pin,go", "", 0, api.ErrArg},
		{"5 - 5", "0 pin,2 unpin,go", "", 0, api.ErrArg},
		{"5 - 5", "0 pin,go,0 none", "", 0, api.ErrArg},
		{"5 - 5", "go,go,go,2 pin", "", 0, api.ErrArg}, // behind what was passed over, too
		{"5 - 5", "1 none", "", 0, api.ErrArg},
		{"5 - 5", "-1 go,8 go", "6 - 5", 1, api.OK},
	} {
		if got, passed, e := pins.Run(read(c.from), ops(c.ops)...); !alone(got, read(c.to)) || passed != c.passed || e != c.e {
			t.Errorf("Run(%s, %s): %v, %d, %d, not %s, %d, %d", c.from, c.ops, got, passed, e, c.to, c.passed, c.e)
		}
	}
}

// P13.3: what can't be done, or has ErrArg, at each place of a row.
func TestRunOfEachPlace(t *testing.T) {
	row := ops("0 pin,1 pin 1,0 unpin,1 unpin,go,2 pin,go,0 pin,2 unpin")
	for place := range len(row) + 1 {
		for _, text := range []string{"3 pin", "-1 unpin", "0 none"} {
			l := slices.Insert(slices.Clone(row), place, op(text))
			if got, passed, e := pins.Run(read("5 - - -"), l...); !nothing(got) || passed != 0 || e != api.ErrArg {
				t.Errorf("%s at %d: %v, %d, %d", text, place, got, passed, e)
			}
		}
		l := slices.Insert(slices.Clone(row), place, api.PinOp{Kind: 1, Goer: 1, By: 1 << 63})
		if got, passed, e := pins.Run(read("5 - - -"), l...); !alone(got, read("7 7 - -")) || passed != 1 || e != api.OK {
			t.Errorf("passed over at %d: %v, %d, %d", place, got, passed, e)
		}
	}
}

// P13.3, P13.2: a row comes to what its ops come to, one by one.
func TestRunIsDoOfEach(t *testing.T) {
	c := chance(5)
	for _, p := range wide() {
		var l []api.PinOp
		for range 20 {
			l = append(l, c.op(p))
		}
		want, passed := copied(p), 0
		var no api.Errno
		for _, o := range l {
			next, e := pins.Do(want, o)
			if e == api.ErrArg {
				want, passed, no = api.Pins{}, 0, e
				break
			}
			if e != api.OK {
				passed++
				continue
			}
			want = next
		}
		if got, many, e := pins.Run(p, l...); !alone(got, want) || many != passed || e != no {
			t.Fatalf("Run(%v, %v): %v, %d, %d, not %v, %d, %d", p, l, got, many, e, want, passed, no)
		}
	}
}

// P13.3: a long row.
func TestRunOfMany(t *testing.T) {
	l := slices.Repeat(ops("0 pin,go,go,0 unpin,0 unpin"), 50000)
	if got, passed, e := pins.Run(read("0 - -"), l...); !alone(got, read("50000 - -")) || passed != 100000 || e != api.OK {
		t.Errorf("Run: %v, %d, %d", got, passed, e)
	}
}

// P13.3: ErrPins goes ahead of all else, of the empty row, too.
func TestRunOfNoPins(t *testing.T) {
	for _, p := range noPins() {
		was := copied(p)
		for _, text := range []string{"", "go", "0 pin", "0 pin,0 unpin,go", "0 none", "-1 pin,go", "go,9 unpin"} {
			if got, passed, e := pins.Run(p, ops(text)...); !nothing(got) || passed != 0 || e != api.ErrPins {
				t.Fatalf("Run(%v, %s): %v, %d, %d", p, text, got, passed, e)
			}
		}
		if !alone(p, was) {
			t.Fatalf("%v were made %v", was, p)
		}
	}
}

// P13.3, R3: what is handed in stays as it is, the room behind its end, too, and is not kept; what is told is memory of its own, of the empty row, too.
func TestRunSharesNoMemory(t *testing.T) {
	plain := read("5 - 5 - 5")
	for _, text := range []string{"", "1 pin", "0 pin", "0 pin,2 pin 4,1 unpin,go", "3 unpin,go,go,1 unpin"} {
		p, rooms := roomy(plain)
		was, l := copied(rooms), ops(text+",0 unpin,0 pin")
		wasL := slices.Clone(l)
		row := l[:len(l)-2]
		got, passed, e := pins.Run(p, row...)
		want, wantPassed, _ := runBy(plain, row)
		if e != api.OK || passed != wantPassed || !alone(got, want) || !alone(p, plain) {
			t.Fatalf("%s: %v, %d, %d, %v", text, got, passed, e, p)
		}
		again, _, _ := pins.Run(p, row...)
		spoil(got)
		if !alone(rooms, was) || !slices.Equal(l, wasL) || !alone(again, want) {
			t.Fatalf("%s: what was told is what was handed in, or was told ahead of it: %v, %v, %v", text, rooms, l, again)
		}
		spoil(rooms)
		clear(l)
		if !alone(again, want) {
			t.Fatalf("%s: what was told is what was handed in: %v, not %v", text, again, want)
		}
	}
}
