package guard

import (
	"slices"
	"testing"

	"honeycomb/api"
)

// P6.3: looks that a section is in, begins in, ends in, or is just beside.
func TestReadsAndClearBesideSections(t *testing.T) {
	l := []api.Section{{From: 3, To: 6}, {From: 9, To: 10}, {From: 14}}
	for name, c := range map[string]struct {
		first, second int
		want          bool
	}{
		"ahead of all":                        {0, 0, true},
		"up to just ahead of a From":          {0, 2, true},
		"up to a From":                        {0, 3, false},
		"one step, just ahead of a From":      {2, 2, true},
		"one step, at a From":                 {3, 3, false},
		"one step, in a section":              {4, 4, false},
		"one step, the last of a section":     {5, 5, false},
		"one step, at a To":                   {6, 6, true},
		"from a To on":                        {6, 8, true},
		"from just ahead of a To on":          {5, 8, false},
		"in one section":                      {3, 5, false},
		"begins in a section":                 {4, 7, false},
		"ends in a section":                   {1, 4, false},
		"ends in a section, at its last step": {1, 5, false},
		"ends just at a To":                   {1, 6, false},
		"spans a section":                     {1, 7, false},
		"spans just one":                      {2, 6, false},
		"begins in one, ends in another one":  {4, 9, false},
		"begins in one, ends in the last one": {4, 20, false},
		"spans one of one step":               {8, 10, false},
		"at one of one step":                  {9, 9, false},
		"spans two":                           {1, 12, false},
		"spans all":                           {0, last, false},
		"between the last two":                {10, 13, true},
		"closed for good, at its From":        {14, 14, false},
		"closed for good, far behind":         {1000, 2000, false},
		"closed for good, at the last step":   {last, last, false},
		"up to where it is closed for good":   {10, 14, false},
	} {
		got, e := Reads(l, api.Look{First: c.first, Second: c.second})
		if !slices.Equal(got, []bool{c.want}) || e != api.OK {
			t.Errorf("Reads %s: %v, %d, not %v", name, got, e, c.want)
		}
		if got := Clear(l, c.first, c.second); got != c.want {
			t.Errorf("Clear %s: %v, not %v", name, got, c.want)
		}
	}
}

// P6.3: where nothing was ever written, all looks are good.
func TestReadsAndClearOfNoSections(t *testing.T) {
	looks := []api.Look{{}, {Second: 1}, {First: 1, Second: 1}, {Second: last}, {First: last, Second: last}, {First: 5, Second: 1000}}
	for _, l := range [][]api.Section{nil, {}} {
		got, e := Reads(l, looks...)
		if len(got) != len(looks) || slices.Contains(got, false) || e != api.OK {
			t.Errorf("Reads: %v, %d", got, e)
		}
		for _, k := range looks {
			if !Clear(l, k.First, k.Second) {
				t.Errorf("Clear(%d, %d): false", k.First, k.Second)
			}
		}
	}
}

// P6.3: of the last steps that there are.
func TestReadsAndClearAtTheLastStep(t *testing.T) {
	for _, c := range []struct {
		l             []api.Section
		first, second int
		want          bool
	}{
		{[]api.Section{{From: last}}, 0, last - 1, true},
		{[]api.Section{{From: last}}, 0, last, false},
		{[]api.Section{{From: last}}, last, last, false},
		{[]api.Section{{From: 1, To: last}}, last, last, true},
		{[]api.Section{{From: 1, To: last}}, last - 1, last, false},
		{[]api.Section{{From: 1, To: last}}, 0, 0, true},
		{[]api.Section{{From: 1, To: last}}, 0, last, false},
		{[]api.Section{{From: 1}}, 0, 0, true},
		{[]api.Section{{From: 1}}, 0, 1, false},
		{[]api.Section{{From: 1, To: 2}}, 2, last, true},
	} {
		got, e := Reads(c.l, api.Look{First: c.first, Second: c.second})
		if !slices.Equal(got, []bool{c.want}) || e != api.OK {
			t.Errorf("Reads(%v, %d %d): %v, %d, not %v", c.l, c.first, c.second, got, e, c.want)
		}
		if got := Clear(c.l, c.first, c.second); got != c.want {
			t.Errorf("Clear(%v, %d, %d): %v, not %v", c.l, c.first, c.second, got, c.want)
		}
	}
}

// P6.3: no looks at all; looks in whatever order, and the same one twice.
func TestReadsOfRows(t *testing.T) {
	l := []api.Section{{From: 3, To: 5}, {From: 8}}
	if got, e := Reads(l); len(got) != 0 || e != api.OK {
		t.Errorf("Reads of no looks: %v, %d", got, e)
	}
	a, b, c := api.Look{First: 5, Second: 7}, api.Look{First: 1, Second: 5}, api.Look{First: 0, Second: 2}
	for _, row := range []struct {
		looks []api.Look
		want  []bool
	}{
		{[]api.Look{a}, []bool{true}},
		{[]api.Look{b}, []bool{false}},
		{[]api.Look{a, b, c}, []bool{true, false, true}},
		{[]api.Look{c, b, a}, []bool{true, false, true}},
		{[]api.Look{b, a, c}, []bool{false, true, true}},
		{[]api.Look{b, b, a, a, b}, []bool{false, false, true, true, false}},
	} {
		if got, e := Reads(l, row.looks...); !slices.Equal(got, row.want) || e != api.OK {
			t.Errorf("Reads(%v): %v, %d, not %v", row.looks, got, e, row.want)
		}
	}
}

// P6.3, P6.4: what is no look, alone, and among those that are.
func TestNoLooks(t *testing.T) {
	fine := api.Look{First: 0, Second: 2}
	for _, l := range [][]api.Section{nil, {{From: 3, To: 5}, {From: 8}}, {{From: last}}} {
		for _, k := range noLooks() {
			for _, looks := range [][]api.Look{{k}, {k, fine}, {fine, k}, {fine, fine, k}, {k, k}} {
				if got, e := Reads(l, looks...); got != nil || e != api.ErrArg {
					t.Errorf("Reads(%v, %v): %v, %d, not ErrArg", l, looks, got, e)
				}
			}
			if Clear(l, k.First, k.Second) {
				t.Errorf("Clear(%v, %d, %d)", l, k.First, k.Second)
			}
			if got, e := Spans(l, k.First, k.Second); got != nil || e != api.ErrArg {
				t.Errorf("Spans(%v, %d, %d): %v, %d, not ErrArg", l, k.First, k.Second, got, e)
			}
		}
	}
}

// P6.4: steps that are all clear, of which none is, that begin and end clear, or in a section.
func TestSpans(t *testing.T) {
	l := []api.Section{{From: 3, To: 6}, {From: 7, To: 8}, {From: 12, To: 20}, {From: 25}}
	for name, c := range map[string]struct {
		from, to int
		want     []api.Look
	}{
		"all clear":                      {8, 11, []api.Look{{First: 8, Second: 11}}},
		"all clear, a part":              {9, 10, []api.Look{{First: 9, Second: 10}}},
		"one that is clear":              {6, 6, []api.Look{{First: 6, Second: 6}}},
		"0 alone":                        {0, 0, []api.Look{{}}},
		"none clear":                     {3, 5, nil},
		"none clear, a part":             {13, 18, nil},
		"one that is not clear":          {7, 7, nil},
		"none clear any more":            {25, 1000, nil},
		"none clear at the last step":    {last, last, nil},
		"begin and end clear":            {1, 9, []api.Look{{First: 1, Second: 2}, {First: 6, Second: 6}, {First: 8, Second: 9}}},
		"begin and end in sections":      {4, 15, []api.Look{{First: 6, Second: 6}, {First: 8, Second: 11}}},
		"begin in one, end clear":        {4, 6, []api.Look{{First: 6, Second: 6}}},
		"begin clear, end in one":        {2, 3, []api.Look{{First: 2, Second: 2}}},
		"begin at a To":                  {20, 24, []api.Look{{First: 20, Second: 24}}},
		"begin just ahead of a To":       {19, 22, []api.Look{{First: 20, Second: 22}}},
		"end just ahead of a From":       {21, 24, []api.Look{{First: 21, Second: 24}}},
		"end at a From":                  {21, 25, []api.Look{{First: 21, Second: 24}}},
		"end at a To":                    {13, 20, []api.Look{{First: 20, Second: 20}}},
		"all steps that there are":       {0, last, []api.Look{{First: 0, Second: 2}, {First: 6, Second: 6}, {First: 8, Second: 11}, {First: 20, Second: 24}}},
		"up to where it closed for good": {23, last, []api.Look{{First: 23, Second: 24}}},
	} {
		if got, e := Spans(l, c.from, c.to); !slices.Equal(got, c.want) || e != api.OK {
			t.Errorf("Spans %s: %v, %d, not %v", name, got, e, c.want)
		}
	}
	for _, c := range []struct {
		l        []api.Section
		from, to int
		want     []api.Look
	}{
		{nil, 0, last, []api.Look{{First: 0, Second: last}}},
		{nil, last, last, []api.Look{{First: last, Second: last}}},
		{nil, 7, 7, []api.Look{{First: 7, Second: 7}}},
		{[]api.Section{{From: 1}}, 0, last, []api.Look{{}}},
		{[]api.Section{{From: last}}, 0, last, []api.Look{{First: 0, Second: last - 1}}},
		{[]api.Section{{From: 1, To: last}}, 0, last, []api.Look{{}, {First: last, Second: last}}},
		{[]api.Section{{From: 1, To: 2}}, 0, last, []api.Look{{}, {First: 2, Second: last}}},
	} {
		if got, e := Spans(c.l, c.from, c.to); !slices.Equal(got, c.want) || e != api.OK {
			t.Errorf("Spans(%v, %d, %d): %v, %d, not %v", c.l, c.from, c.to, got, e, c.want)
		}
	}
}

// P6.4: the first clear step behind several sections, and where there is none.
func TestNext(t *testing.T) {
	l := []api.Section{{From: 3, To: 6}, {From: 7, To: 8}, {From: 9, To: 20}}
	good := append(slices.Clone(l), api.Section{From: 25})
	for _, c := range []struct {
		l    []api.Section
		step int
		want int
		e    api.Errno
	}{
		{nil, 0, 0, api.OK},
		{nil, 7, 7, api.OK},
		{nil, last, last, api.OK},
		{l, 0, 0, api.OK},
		{l, 2, 2, api.OK},
		{l, 3, 6, api.OK},
		{l, 4, 6, api.OK},
		{l, 5, 6, api.OK},
		{l, 6, 6, api.OK},
		{l, 7, 8, api.OK},
		{l, 8, 8, api.OK},
		{l, 9, 20, api.OK},
		{l, 19, 20, api.OK},
		{l, 20, 20, api.OK},
		{l, 21, 21, api.OK},
		{l, last, last, api.OK},
		{good, 19, 20, api.OK},
		{good, 24, 24, api.OK},
		{good, 25, 0, api.ErrNone},
		{good, 26, 0, api.ErrNone},
		{good, last, 0, api.ErrNone},
		{[]api.Section{{From: 1}}, 0, 0, api.OK},
		{[]api.Section{{From: 1}}, 1, 0, api.ErrNone},
		{[]api.Section{{From: last}}, last - 1, last - 1, api.OK},
		{[]api.Section{{From: last}}, last, 0, api.ErrNone},
		{[]api.Section{{From: 1, To: last}}, 1, last, api.OK},
		{[]api.Section{{From: 1, To: last}}, last - 1, last, api.OK},
		{[]api.Section{{From: 1, To: last}}, last, last, api.OK},
	} {
		if got, e := Next(c.l, c.step); got != c.want || e != c.e {
			t.Errorf("Next(%v, %d): %d, %d, not %d, %d", c.l, c.step, got, e, c.want, c.e)
		}
	}
}

// P6.5: a look is good just if all its steps are clear: which Reads and Clear tell, and Count at its two steps.
func TestGoodIsClear(t *testing.T) {
	for _, l := range allOf(1, 7) {
		for first := range 10 {
			for second := first; second < 10; second++ {
				good, e := Reads(l, api.Look{First: first, Second: second})
				a, _ := Count(l, first)
				b, _ := Count(l, second)
				each := true
				for step := first; step <= second; step++ {
					each = each && Clear(l, step, step)
				}
				if e != api.OK || !slices.Equal(good, []bool{each}) || Good(a, b) != each || Clear(l, first, second) != each {
					t.Fatalf("%v, %d to %d: good %v, %v by its counts; clear %v, %v step by step", l, first, second, good, Good(a, b), Clear(l, first, second), each)
				}
			}
		}
	}
}

// P6.5: spans are clear, and what lies between them, ahead of them, and behind them is not.
func TestSpansAreClear(t *testing.T) {
	for _, l := range allOf(1, 7) {
		for from := range 10 {
			for to := from; to < 10; to++ {
				spans, e := Spans(l, from, to)
				if e != api.OK {
					t.Fatalf("Spans(%v, %d, %d): %d", l, from, to, e)
				}
				in := map[int]bool{}
				for at, k := range spans {
					if !Clear(l, k.First, k.Second) || k.First < from || k.Second > to || at > 0 && k.First <= spans[at-1].Second+1 {
						t.Fatalf("Spans(%v, %d, %d): %v", l, from, to, spans)
					}
					for step := k.First; step <= k.Second; step++ {
						in[step] = true
					}
				}
				for step := from; step <= to; step++ {
					if in[step] != Clear(l, step, step) {
						t.Fatalf("Spans(%v, %d, %d): %v, but %d is clear: %v", l, from, to, spans, step, !in[step])
					}
				}
			}
		}
	}
}

// P6.5: a counter that is closed for good is never good again.
func TestClosedForGood(t *testing.T) {
	c := chance(3)
	for range 300 {
		l := c.sections(1 + c.below(6))
		l[len(l)-1].To = 0
		from := l[len(l)-1].From
		for _, step := range []int{from, from + 1, from + 2, from + 1000, last - 1, last} {
			looks := []api.Look{{First: step, Second: step}, {First: step, Second: last}, {First: from, Second: step}, {First: from - 1, Second: step}, {Second: step}}
			if got, e := Reads(l, looks...); len(got) != len(looks) || slices.Contains(got, true) || e != api.OK {
				t.Fatalf("Reads(%v, %v): %v, %d", l, looks, got, e)
			}
			if got, e := Next(l, step); got != 0 || e != api.ErrNone {
				t.Fatalf("Next(%v, %d): %d, %d, not ErrNone", l, step, got, e)
			}
			if got, e := Count(l, step); got != uint64(2*len(l)-1) || e != api.OK {
				t.Fatalf("Count(%v, %d): %d, %d", l, step, got, e)
			}
			if Clear(l, step, last) {
				t.Fatalf("Clear(%v, %d, %d)", l, step, last)
			}
		}
		if !Clear(l, from-1, from-1) {
			t.Fatalf("Clear(%v, %d)", l, from-1)
		}
	}
}

// R3: what is handed in stays as it is, the room behind its end, too.
func TestRowsStay(t *testing.T) {
	sections := []api.Section{{From: 3, To: 5}, {From: 8}, {From: 99, To: 98}}
	looks := []api.Look{{First: 1, Second: 2}, {First: 2, Second: 5}, {First: 9, Second: 7}}
	l, k := slices.Clone(sections), slices.Clone(looks)
	for _, most := range []int{2, 3} { // with the third one they are none
		for _, many := range []int{2, 3} {
			Check(l[:most])
			Count(l[:most], 9)
			Reads(l[:most], k[:many]...)
			Clear(l[:most], 0, 2)
			Spans(l[:most], 0, 9)
			Next(l[:most], 3)
			Next(l[:most], 9)
		}
	}
	if !slices.Equal(l, sections) || !slices.Equal(k, looks) {
		t.Errorf("rows are %v, %v, not %v, %v", l, k, sections, looks)
	}
}

// R3, R5: what is told is new each time, whatever was done with what was told ahead of it.
func TestToldRowsAreNew(t *testing.T) {
	l := []api.Section{{From: 3, To: 5}, {From: 8}}
	looks := []api.Look{{First: 1, Second: 2}, {First: 2, Second: 5}}
	for range 3 {
		good, _ := Reads(l, looks...)
		spans, _ := Spans(l, 1, 10)
		if !slices.Equal(good, []bool{true, false}) || !slices.Equal(spans, []api.Look{{First: 1, Second: 2}, {First: 5, Second: 7}}) {
			t.Fatalf("Reads, Spans: %v, %v", good, spans)
		}
		_, _ = append(good, true), append(spans, api.Look{})
		clear(good)
		clear(spans)
	}
	if !slices.Equal(looks, []api.Look{{First: 1, Second: 2}, {First: 2, Second: 5}}) {
		t.Errorf("looks are %v", looks)
	}
}

// R1: very many sections, and very many looks, end, too.
func TestVeryMany(t *testing.T) {
	const many = 1 << 17
	edges := rising(2 * many)
	for at := range edges {
		edges[at] *= 2 // two steps in each section, and between each two
	}
	l := between(edges...)
	looks := make([]api.Look, many)
	for at := range looks {
		looks[at] = api.Look{First: 4 * at, Second: 4*at + 1 + at%2}
	}
	good, e := Reads(l, looks...)
	if len(good) != many || e != api.OK {
		t.Fatalf("Reads: %d, %d", len(good), e)
	}
	for at, is := range good {
		if is != (at%2 == 0) {
			t.Fatalf("Reads: %v is %v", looks[at], is)
		}
	}
	spans, e := Spans(l, 0, last)
	if len(spans) != many+1 || e != api.OK || spans[many] != (api.Look{First: 4 * many, Second: last}) {
		t.Errorf("Spans: %d, %d", len(spans), e)
	}
	for at, k := range spans[:many] {
		if k != (api.Look{First: 4 * at, Second: 4*at + 1}) {
			t.Fatalf("Spans: %d is %v", at, k)
		}
	}
	if got, e := Count(l, last); got != 2*many || e != api.OK {
		t.Errorf("Count: %d, %d", got, e)
	}
	if got, e := Next(l, 4*many-1); got != 4*many || e != api.OK {
		t.Errorf("Next: %d, %d", got, e)
	}
}
