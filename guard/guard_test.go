package guard

import (
	"math"
	"slices"
	"testing"

	"honeycomb/api"
)

// P6.1: a counter that may be moved on is moved on by one, all others are not.
func TestOpenAndClose(t *testing.T) {
	const half = uint64(1) << 63
	for _, count := range []uint64{0, 1, 2, 3, 4, 5, 254, 255, 256, 257, math.MaxInt32, math.MaxUint32, 1 << 32, 1<<32 + 1, half - 3, half - 2, half - 1, half, half + 1, half + 2, half + 3, math.MaxUint64 - 2, math.MaxUint64 - 1, math.MaxUint64} {
		open, opened := uint64(0), api.ErrCount
		shut, closed := uint64(0), api.ErrCount
		switch {
		case count >= half:
		case count%2 == 0:
			open, opened = count+1, api.OK
		default:
			shut, closed = count+1, api.OK
		}
		if got, e := Open(count); got != open || e != opened {
			t.Errorf("Open(%d): %d, %d, not %d, %d", count, got, e, open, opened)
		}
		if got, e := Close(count); got != shut || e != closed {
			t.Errorf("Close(%d): %d, %d, not %d, %d", count, got, e, shut, closed)
		}
	}
}

// P6.1: the edges, in numbers.
func TestOpenAndCloseAtTheirEnds(t *testing.T) {
	for _, c := range []struct {
		name  string
		do    func(uint64) (uint64, api.Errno)
		count uint64
		want  uint64
		e     api.Errno
	}{
		{"Open of 0", Open, 0, 1, api.OK},
		{"Open of 1", Open, 1, 0, api.ErrCount},
		{"Open of 2^63 less 2", Open, 9223372036854775806, 9223372036854775807, api.OK},
		{"Open of 2^63 less 1", Open, 9223372036854775807, 0, api.ErrCount},
		{"Open of 2^63", Open, 9223372036854775808, 0, api.ErrCount},
		{"Open of 2^64 less 2", Open, 18446744073709551614, 0, api.ErrCount},
		{"Open of 2^64 less 1", Open, 18446744073709551615, 0, api.ErrCount},
		{"Close of 0", Close, 0, 0, api.ErrCount},
		{"Close of 1", Close, 1, 2, api.OK},
		{"Close of 2^63 less 2", Close, 9223372036854775806, 0, api.ErrCount},
		{"Close of 2^63 less 1", Close, 9223372036854775807, 9223372036854775808, api.OK},
		{"Close of 2^63", Close, 9223372036854775808, 0, api.ErrCount},
		{"Close of 2^63 and 1", Close, 9223372036854775809, 0, api.ErrCount},
		{"Close of 2^64 less 1", Close, 18446744073709551615, 0, api.ErrCount},
	} {
		if got, e := c.do(c.count); got != c.want || e != c.e {
			t.Errorf("%s: %d, %d, not %d, %d", c.name, got, e, c.want, c.e)
		}
	}
}

// P6.1: a counter that is opened and closed, again and again, is what the document says at each step.
func TestOpenAndCloseInTurn(t *testing.T) {
	l := between(rising(40)...)
	count := uint64(0)
	for step := 1; step <= 40; step++ {
		do := Open
		if step%2 == 0 {
			do = Close
		}
		next, e := do(count)
		if e != api.OK {
			t.Fatalf("at %d: %d", step, e)
		}
		count = next
		if got, e := Count(l, step); got != count || e != api.OK {
			t.Errorf("Count at %d: %d, %d, not %d", step, got, e, count)
		}
	}
}

// P6.1: of any two counters.
func TestGood(t *testing.T) {
	const half = uint64(1) << 63
	counts := []uint64{0, 1, 2, 3, 4, 5, 256, 257, 1 << 32, 1<<32 + 1, 1<<32 + 2, half - 2, half - 1, half, half + 1, half + 2, math.MaxUint64 - 1, math.MaxUint64}
	for x, first := range counts {
		for y, second := range counts {
			if got := Good(first, second); got != (x == y && first%2 == 0) {
				t.Errorf("Good(%d, %d): %v", first, second, got)
			}
		}
	}
}

// P6.2: what may be, up to its edges.
func TestCheckOfWhatMayBe(t *testing.T) {
	for name, l := range map[string][]api.Section{
		"none":                            nil,
		"an empty row":                    {},
		"From of 1":                       {{From: 1, To: 2}},
		"From of 1, on and on":            {{From: 1}},
		"From of 1, to the last step":     {{From: 1, To: last}},
		"up to the last step":             {{From: last - 1, To: last}},
		"the last step, on and on":        {{From: last}},
		"one step between two":            {{From: 3, To: 5}, {From: 6, To: 7}},
		"each one step long":              {{From: 1, To: 2}, {From: 3, To: 4}, {From: 5, To: 6}},
		"the last one goes on and on":     {{From: 1, To: 2}, {From: 3, To: 4}, {From: 5}},
		"and does so at the last step":    {{From: 1, To: last - 1}, {From: last}},
		"the last one to the last step":   {{From: 1, To: 2}, {From: last - 1, To: last}},
		"very many":                       between(rising(1 << 17)...),
		"very many, the last on and on":   between(rising(1<<17 - 1)...),
		"the document's":                  {{From: 3, To: 5}, {From: 8}},
		"far apart":                       {{From: 1, To: 2}, {From: 1 << 20, To: 1 << 29}, {From: last - 1, To: last}},
		"steps that are not small at all": {{From: 1<<30 - 5, To: 1<<30 - 3}, {From: 1<<30 - 1}},
	} {
		if e := Check(l); e != api.OK {
			t.Errorf("Check of %s: %d", name, e)
		}
	}
	for _, l := range slices.Concat(allOf(1, 7), allOf(last-6, 7)) {
		if e := Check(l); e != api.OK {
			t.Errorf("Check(%v): %d", l, e)
		}
	}
}

// P6.2: what may not be, alone, and beside what may.
func TestCheckOfWhatMayNotBe(t *testing.T) {
	for name, l := range noSections() {
		for _, beside := range [][]api.Section{l, append(slices.Clone(l), api.Section{From: last - 1, To: last}), append(slices.Clone(l), api.Section{From: last})} {
			if e := Check(beside); e != api.ErrSections {
				t.Errorf("Check of %s: %d, not ErrSections", name, e)
			}
		}
	}
}

// P6.2: all rows of up to three that are made of steps at the ends of what there is, and some that are not.
func TestCheckOfRows(t *testing.T) {
	var kinds []api.Section
	for _, from := range []int{-1, 0, 1, 2, 3, last - 1, last, last + 1} {
		for _, to := range []int{-1, 0, 1, 2, 3, 4, last - 1, last, last + 1} {
			kinds = append(kinds, api.Section{From: from, To: to})
		}
	}
	many := [4]int{}
	hold := func(l ...api.Section) {
		e := Check(l)
		if (e == api.OK) != mayBe(l) || e != api.OK && e != api.ErrSections {
			t.Fatalf("Check(%v): %d", l, e)
		}
		if e == api.OK {
			many[len(l)]++
		}
	}
	for _, a := range kinds {
		hold(a)
		for _, b := range kinds {
			hold(a, b)
			for _, c := range kinds {
				hold(a, b, c)
			}
		}
	}
	if many[1] == 0 || many[2] == 0 || many[3] == 0 {
		t.Errorf("so many rows may be: %v", many)
	}
}

// P6.2 to P6.4: the chapter's examples.
func TestExamples(t *testing.T) {
	l := []api.Section{{From: 3, To: 5}, {From: 8}}
	for step, want := range map[int]uint64{2: 0, 3: 1, 5: 2, 9: 3} {
		if got, e := Count(l, step); got != want || e != api.OK {
			t.Errorf("Count at %d: %d, %d, not %d", step, got, e, want)
		}
	}
	looks := []api.Look{{First: 1, Second: 2}, {First: 2, Second: 5}, {First: 5, Second: 7}, {First: 9, Second: 9}}
	if got, e := Reads(l, looks...); !slices.Equal(got, []bool{true, false, true, false}) || e != api.OK {
		t.Errorf("Reads: %v, %d", got, e)
	}
	if got, e := Spans(l, 1, 10); !slices.Equal(got, []api.Look{{First: 1, Second: 2}, {First: 5, Second: 7}}) || e != api.OK {
		t.Errorf("Spans: %v, %d", got, e)
	}
	if got, e := Next(l, 3); got != 5 || e != api.OK {
		t.Errorf("Next(3): %d, %d", got, e)
	}
	if got, e := Next(l, 8); got != 0 || e != api.ErrNone {
		t.Errorf("Next(8): %d, %d", got, e)
	}
	if got, e := Open(2); got != 3 || e != api.OK {
		t.Errorf("Open(2): %d, %d", got, e)
	}
	if got, e := Open(3); got != 0 || e != api.ErrCount {
		t.Errorf("Open(3): %d, %d", got, e)
	}
	if got, e := Close(3); got != 4 || e != api.OK {
		t.Errorf("Close(3): %d, %d", got, e)
	}
	if !Good(2, 2) {
		t.Error("Good(2, 2): false")
	}
}

// asked holds all that is asked of sections against the document, step by step, of steps from first to end, and looks between these.
func asked(t *testing.T, l []api.Section, first, end int) {
	t.Helper()
	var looks []api.Look
	var good []bool
	for from := first; from <= end; from++ {
		if got, e := Count(l, from); got != countAt(l, from) || e != api.OK {
			t.Fatalf("Count(%v, %d): %d, %d", l, from, got, e)
		}
		want, why := nextBy(l, from)
		if got, e := Next(l, from); got != want || e != why {
			t.Fatalf("Next(%v, %d): %d, %d, not %d, %d", l, from, got, e, want, why)
		}
		for to := from; to <= end; to++ {
			k := api.Look{First: from, Second: to}
			looks, good = append(looks, k), append(good, goodBy(l, k))
			if got := Clear(l, from, to); got != clearBy(l, from, to) {
				t.Fatalf("Clear(%v, %d, %d): %v", l, from, to, got)
			}
			if got, e := Spans(l, from, to); !slices.Equal(got, spansBy(l, from, to)) || e != api.OK {
				t.Fatalf("Spans(%v, %d, %d): %v, %d, not %v", l, from, to, got, e, spansBy(l, from, to))
			}
		}
	}
	if got, e := Reads(l, looks...); !slices.Equal(got, good) || e != api.OK {
		t.Fatalf("Reads(%v, %v): %v, %d, not %v", l, looks, got, e, good)
	}
}

// P6.2 to P6.4: all sections among few steps from 1 on, and up to the last one.
func TestAllSections(t *testing.T) {
	for _, l := range allOf(1, 8) {
		asked(t, l, 0, 10)
	}
	for _, l := range allOf(last-7, 8) {
		asked(t, l, last-9, last)
	}
}

// P6.2 to P6.4: longer rows, to which chance came.
func TestLongerSections(t *testing.T) {
	c := chance(7)
	for range 120 {
		asked(t, c.sections(c.below(9)), 0, 40)
	}
}

// P6.2: at the ends of what there is, and where there is nothing.
func TestCountAtItsEnds(t *testing.T) {
	for _, c := range []struct {
		name string
		l    []api.Section
		step int
		want uint64
	}{
		{"none at 0", nil, 0, 0},
		{"none at the last step", nil, last, 0},
		{"ahead of the first", []api.Section{{From: 1, To: 2}}, 0, 0},
		{"at a From", []api.Section{{From: 1, To: 2}}, 1, 1},
		{"at a To", []api.Section{{From: 1, To: 2}}, 2, 2},
		{"one less than a From", []api.Section{{From: 3, To: 6}}, 2, 0},
		{"one less than a To", []api.Section{{From: 3, To: 6}}, 5, 1},
		{"at a To of the last step", []api.Section{{From: 3, To: last}}, last, 2},
		{"one less than that", []api.Section{{From: 3, To: last}}, last - 1, 1},
		{"at a From of the last step", []api.Section{{From: last}}, last, 1},
		{"one less than that", []api.Section{{From: last}}, last - 1, 0},
		{"closed for good", []api.Section{{From: 3, To: 5}, {From: 8}}, last, 3},
	} {
		if got, e := Count(c.l, c.step); got != c.want || e != api.OK {
			t.Errorf("Count %s: %d, %d, not %d", c.name, got, e, c.want)
		}
	}
}

// P6.2, P6.4: steps that there are not.
func TestNoSteps(t *testing.T) {
	for _, l := range [][]api.Section{nil, {{From: 1}}, {{From: 3, To: 5}, {From: 8}}, {{From: last}}, {{From: 2, To: last}}} {
		for _, step := range odd {
			if got, e := Count(l, step); got != 0 || e != api.ErrArg {
				t.Errorf("Count(%v, %d): %d, %d, not ErrArg", l, step, got, e)
			}
			if got, e := Next(l, step); got != 0 || e != api.ErrArg {
				t.Errorf("Next(%v, %d): %d, %d, not ErrArg", l, step, got, e)
			}
		}
		for _, step := range []int{0, last} {
			if _, e := Count(l, step); e != api.OK {
				t.Errorf("Count(%v, %d): %d", l, step, e)
			}
			if _, e := Next(l, step); e == api.ErrArg {
				t.Errorf("Next(%v, %d): ErrArg", l, step)
			}
		}
	}
}

// R2: ErrSections goes ahead of all else, and all other results are zero.
func TestErrSectionsGoesAhead(t *testing.T) {
	for name, l := range noSections() {
		for _, step := range []int{-1, 0, 3, last, last + 1, math.MinInt, math.MaxInt} {
			if got, e := Count(l, step); got != 0 || e != api.ErrSections {
				t.Errorf("Count of %s at %d: %d, %d, not ErrSections", name, step, got, e)
			}
			if got, e := Next(l, step); got != 0 || e != api.ErrSections {
				t.Errorf("Next of %s at %d: %d, %d, not ErrSections", name, step, got, e)
			}
			for _, to := range []int{-1, 0, 4, last, last + 1} {
				if got, e := Spans(l, step, to); got != nil || e != api.ErrSections {
					t.Errorf("Spans of %s, %d to %d: %v, %d, not ErrSections", name, step, to, got, e)
				}
				if got, e := Reads(l, api.Look{First: step, Second: to}); got != nil || e != api.ErrSections {
					t.Errorf("Reads of %s, %d to %d: %v, %d, not ErrSections", name, step, to, got, e)
				}
				if Clear(l, step, to) {
					t.Errorf("Clear of %s, %d to %d", name, step, to)
				}
			}
		}
		if got, e := Reads(l); got != nil || e != api.ErrSections {
			t.Errorf("Reads of %s, no looks: %v, %d, not ErrSections", name, got, e)
		}
	}
}
