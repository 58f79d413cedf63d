package guard

import (
	"math"
	"slices"

	"honeycomb/api"
)

const last = 1 << 30 // the last step

// chance are numbers that come to the same with each run of a test.
type chance uint64

func (c *chance) below(n int) int {
	*c ^= *c << 13
	*c ^= *c >> 7
	*c ^= *c << 17
	return int(uint64(*c) >> 11 % uint64(n))
}

// openAt is whether a section is open at a step.
func openAt(l []api.Section, step int) bool {
	return slices.ContainsFunc(l, func(s api.Section) bool { return s.From <= step && (s.To == 0 || step < s.To) })
}

// countAt is how many of all From, and of all To that are not 0, are at most that step.
func countAt(l []api.Section, step int) (many uint64) {
	for _, s := range l {
		if s.From <= step {
			many++
		}
		if s.To != 0 && s.To <= step {
			many++
		}
	}
	return many
}

// goodBy is whether a look is good, by what the counter is at its two steps.
func goodBy(l []api.Section, k api.Look) bool {
	first, second := countAt(l, k.First), countAt(l, k.Second)
	return first%2 == 0 && first == second
}

// clearBy is whether all steps are clear, step by step.
func clearBy(l []api.Section, from, to int) bool {
	for step := from; step <= to; step++ {
		if openAt(l, step) {
			return false
		}
	}
	return true
}

// spansBy are rows of clear steps, step by step: each clear step goes on with the row ahead of it, or begins one.
func spansBy(l []api.Section, from, to int) (row []api.Look) {
	for step := from; step <= to; step++ {
		switch many := len(row); {
		case openAt(l, step):
		case many > 0 && row[many-1].Second == step-1:
			row[many-1].Second = step
		default:
			row = append(row, api.Look{First: step, Second: step})
		}
	}
	return row
}

// nextBy is the first clear step from one on, step by step.
func nextBy(l []api.Section, from int) (int, api.Errno) {
	for step := from; step <= last; step++ {
		if !openAt(l, step) {
			return step, api.OK
		}
		if at := len(l) - 1; l[at].To == 0 && l[at].From <= step {
			break // the counter is closed for good: there is no need to go on to the last step of all
		}
	}
	return 0, api.ErrNone
}

// mayBe is what the document says of sections, part by part.
func mayBe(l []api.Section) bool {
	for at, s := range l {
		ends := s.To > s.From && s.To <= last
		goesOn := s.To == 0 && at == len(l)-1
		if s.From < 1 || s.From > last || !ends && !goesOn || at > 0 && s.From <= l[at-1].To {
			return false
		}
	}
	return true
}

// between are the sections whose edges are these steps: a last one that is left over begins one that goes on and on.
func between(edges ...int) (l []api.Section) {
	for at, edge := range edges {
		if at%2 == 0 {
			l = append(l, api.Section{From: edge})
		} else {
			l[at/2].To = edge
		}
	}
	return l
}

// allOf are all sections whose edges are among so many steps from one on: as each edge is more than the one ahead of it, each set of steps is one row.
func allOf(first, many int) (all [][]api.Section) {
	for bits := range 1 << many {
		var edges []int
		for n := range many {
			if bits>>n&1 == 1 {
				edges = append(edges, first+n)
			}
		}
		all = append(all, between(edges...))
	}
	return all
}

// sections are so many, near to each other, that chance makes; the last one goes on and on in one of three.
func (c *chance) sections(many int) []api.Section {
	var edges []int
	at := 0
	for range 2 * many {
		at += 1 + c.below(4)
		edges = append(edges, at)
	}
	if many > 0 && c.below(3) == 0 {
		edges = edges[:2*many-1]
	}
	return between(edges...)
}

// odd are numbers that are no steps.
var odd = []int{math.MinInt, math.MinInt + 1, -last, -2, -1, last + 1, last + 2, 1 << 31, 1 << 32, 1<<32 + 1, math.MaxInt - 1, math.MaxInt}

// noLooks are no looks.
func noLooks() []api.Look {
	l := []api.Look{{First: 1}, {First: 3, Second: 2}, {First: last}, {First: last, Second: last - 1}, {First: last + 1, Second: last}, {First: math.MaxInt, Second: math.MinInt}}
	for _, n := range odd {
		l = append(l, api.Look{First: n, Second: n}, api.Look{First: n, Second: 5}, api.Look{First: 5, Second: n}, api.Look{Second: n}, api.Look{First: n, Second: last}, api.Look{First: last, Second: n})
	}
	return slices.DeleteFunc(l, func(k api.Look) bool { return k.First >= 0 && k.First <= k.Second && k.Second <= last })
}

// noSections are what may not be, and why.
func noSections() map[string][]api.Section {
	all := map[string][]api.Section{
		"From of 0":                             {{From: 0, To: 3}},
		"From of 0, on and on":                  {{}},
		"From of -1":                            {{From: -1, To: 3}},
		"From of -1, on and on":                 {{From: -1}},
		"From of -1, To of 1":                   {{From: -1, To: 1}},
		"From far below":                        {{From: math.MinInt, To: 3}},
		"From of one more than all steps":       {{From: last + 1}},
		"that, and To behind it":                {{From: last + 1, To: last + 2}},
		"From far above":                        {{From: math.MaxInt}},
		"To of From":                            {{From: 3, To: 3}},
		"To of one less":                        {{From: 3, To: 2}},
		"To of 1, From of 1":                    {{From: 1, To: 1}},
		"To of -1":                              {{From: 3, To: -1}},
		"To far below":                          {{From: 3, To: math.MinInt}},
		"To of one more than all steps":         {{From: 3, To: last + 1}},
		"the last step, and one more":           {{From: last, To: last + 1}},
		"the last step twice":                   {{From: last, To: last}},
		"To far above":                          {{From: 3, To: math.MaxInt}},
		"To of 0, one behind it":                {{From: 3}, {From: 5, To: 7}},
		"To of 0, one on and on behind it":      {{From: 3}, {From: 5}},
		"To of 0, the second of three":          {{From: 1, To: 2}, {From: 3}, {From: 5, To: 7}},
		"From of the To ahead":                  {{From: 3, To: 5}, {From: 5, To: 7}},
		"that, on and on":                       {{From: 3, To: 5}, {From: 5}},
		"From of less than the To ahead":        {{From: 3, To: 5}, {From: 4, To: 7}},
		"one in the other":                      {{From: 3, To: 9}, {From: 5, To: 7}},
		"the same twice":                        {{From: 3, To: 5}, {From: 3, To: 5}},
		"falling":                               {{From: 8, To: 9}, {From: 3, To: 5}},
		"falling behind the first":              {{From: 1, To: 2}, {From: 8, To: 9}, {From: 3, To: 5}},
		"From of the To ahead, the last step":   {{From: 3, To: last}, {From: last}},
		"the third is wrong":                    {{From: 1, To: 2}, {From: 3, To: 4}, {From: 5, To: 5}},
		"very many that are wrong":              make([]api.Section, 1<<18),
		"very many, of which the last is wrong": nil,
	}
	long := between(rising(1 << 17)...)
	long[len(long)-1].To = long[len(long)-1].From
	all["very many, of which the last is wrong"] = long
	return all
}

// rising are so many steps from 1 on.
func rising(many int) []int {
	row := make([]int, many)
	for at := range row {
		row[at] = at + 1
	}
	return row
}
