package mutex

import (
	"math"
	"slices"

	"honeycomb/api"
)

// chance are numbers that come to the same with each run of a test.
type chance uint64

func (c *chance) below(n int) int {
	*c ^= *c << 13
	*c ^= *c >> 7
	*c ^= *c << 17
	return int(uint64(*c) >> 11 % uint64(n))
}

// lines are mutexes by another way than the package's: of each those that asked for it, and have not left it. The first one has it, the others wait.
type lines [][]int

// laid are the mutexes of which these are the lines.
func (s lines) laid() []api.Mutex {
	l := make([]api.Mutex, len(s))
	for which, line := range s {
		if len(line) > 0 {
			l[which] = api.Mutex{By: line[0] + 1, Queue: slices.Clone(line[1:])}
		}
	}
	return l
}

func (s lines) clone() lines {
	t := make(lines, len(s))
	for which, line := range s {
		t[which] = slices.Clone(line)
	}
	return t
}

// waits are the mutexes in whose lines a goroutine stands behind another one.
func (s lines) waits(goer int) []int {
	var row []int
	for which, line := range s {
		if slices.Index(line, goer) > 0 {
			row = append(row, which)
		}
	}
	return row
}

// has are the mutexes in whose lines a goroutine stands ahead of all others.
func (s lines) has(goer int) []int {
	var row []int
	for which, line := range s {
		if slices.Index(line, goer) == 0 {
			row = append(row, which)
		}
	}
	return row
}

func (s lines) ask(which, goer int) (lines, bool, api.Errno) {
	switch {
	case which < 0 || which >= len(s) || goer < 0 || goer > 7:
		return nil, false, api.ErrArg
	case len(s.waits(goer)) > 0 || slices.Contains(s[which], goer):
		return nil, false, api.ErrOwn
	}
	t := s.clone()
	t[which] = append(t[which], goer)
	return t, len(t[which]) == 1, api.OK
}

func (s lines) leave(which, goer int) (lines, int, api.Errno) {
	switch {
	case which < 0 || which >= len(s) || goer < 0 || goer > 7:
		return nil, 0, api.ErrArg
	case slices.Index(s[which], goer) != 0:
		return nil, 0, api.ErrNone
	}
	t := s.clone()
	t[which] = t[which][1:]
	if len(t[which]) == 0 {
		return t, -1, api.OK
	}
	return t, t[which][0], api.OK
}

func (s lines) play(deeds []api.Deed) (lines, int, api.Errno) {
	t, passed := s, 0
	for _, d := range deeds {
		var e api.Errno
		switch {
		case len(t.waits(d.Goer)) > 0:
			passed++
			continue
		case d.Leave:
			t, _, e = t.leave(d.Which, d.Goer)
		default:
			t, _, e = t.ask(d.Which, d.Goer)
		}
		if e != api.OK {
			return nil, 0, e
		}
	}
	return t, passed, api.OK
}

// ring is sought among all rows of goroutines of which each waits for what the next one has.
func (s lines) ring() []int {
	for first := range 8 {
		if row := s.further([]int{first}); row != nil {
			return row
		}
	}
	return nil
}

// further goes on behind a row with each greater one than its first that can come there, until the last one waits for the first.
func (s lines) further(row []int) []int {
	for _, which := range s.waits(row[len(row)-1]) {
		if s[which][0] == row[0] {
			return row
		}
		for goer := row[0] + 1; goer < 8; goer++ {
			if s[which][0] != goer || slices.Contains(row, goer) {
				continue
			}
			if whole := s.further(append(slices.Clone(row), goer)); whole != nil {
				return whole
			}
		}
	}
	return nil
}

// rows are all of up to so many of these, none twice.
func rows(of []int, most int) [][]int {
	all := [][]int{nil}
	for at := 0; at < len(all); at++ {
		for _, one := range of {
			if len(all[at]) < most && !slices.Contains(all[at], one) {
				all = append(all, append(slices.Clone(all[at]), one))
			}
		}
	}
	return all
}

// states are all lines of so many mutexes, of goroutines of which each waits for one at most.
func states(many int, goers []int) []lines {
	all := []lines{nil}
	for range many {
		var longer []lines
		for _, s := range all {
			for _, line := range rows(goers, len(goers)) {
				t := append(s.clone(), line)
				if !slices.ContainsFunc(goers, func(goer int) bool { return len(t.waits(goer)) > 1 }) {
					longer = append(longer, t)
				}
			}
		}
		all = longer
	}
	return all
}

// deed asks, or leaves, more often than not what can be asked for, or left.
func (c *chance) deed(s lines, goers int) api.Deed {
	d := api.Deed{Leave: c.below(2) == 0, Goer: c.below(goers), Which: c.below(len(s))}
	if has := s.has(d.Goer); d.Leave && len(has) > 0 && c.below(8) > 0 {
		d.Which = has[c.below(len(has))]
	}
	return d
}

// state are lines to which chance comes in so many deeds; those that can't be done are left out.
func (c *chance) state(many, goers, deeds int) lines {
	s := make(lines, many)
	for range deeds {
		if t, _, e := s.play([]api.Deed{c.deed(s, goers)}); e == api.OK {
			s = t
		}
	}
	return s
}

// odd are numbers at which rows end, and numbers wrap round.
var odd = []int{math.MinInt, math.MinInt + 1, -1 << 32, -9, -8, -2, -1, 160, 161, 256, 1 << 32, 1<<32 + 1, math.MaxInt - 1, math.MaxInt}

// noMutexes are what may not be, and why.
func noMutexes() map[string][]api.Mutex {
	one := func(by int, queue ...int) []api.Mutex { return []api.Mutex{{By: by, Queue: queue}} }
	all := map[string][]api.Mutex{
		"none":                              nil,
		"an empty row":                      {},
		"161":                               make([]api.Mutex, 161),
		"very many":                         make([]api.Mutex, 1<<18),
		"By -1":                             one(-1),
		"By -1, and who waits":              one(-1, 2),
		"By of the last one and one more":   one(9),
		"that, and who waits":               one(9, 7),
		"By far below":                      one(math.MinInt),
		"By far above":                      one(math.MaxInt),
		"By of 256":                         one(256),
		"nobody has it, one waits":          one(0, 0),
		"nobody has it, the last one waits": one(0, 7),
		"nobody has it, -1 waits":           one(0, -1),
		"nobody has it, three wait":         one(0, 3, 4, 5),
		"one twice, side by side":           one(1, 2, 2),
		"one twice, apart":                  one(1, 2, 3, 2),
		"the last one twice":                one(1, 7, 7),
		"the one that has it":               one(3, 2),
		"the first one has it, and waits":   one(1, 0),
		"the last one has it, and waits":    one(8, 7),
		"the one that has it, at the end":   one(8, 0, 1, 2, 3, 7),
		"all eight":                         one(1, 1, 2, 3, 4, 5, 6, 7, 0),
		"one waits that there is not":       one(1, 8),
		"one below 0 waits":                 one(1, -1),
		"one far above waits":               one(1, math.MaxInt),
		"one far below waits":               one(1, math.MinInt),
		"one of 2^32 waits":                 one(1, 1<<32),
		"one that there is not, at the end": one(1, 2, 3, 4, 8),
		"a long queue":                      {{By: 1, Queue: make([]int, 1<<18)}},
		"a long queue of one twice":         {{By: 2, Queue: make([]int, 1<<18)}},
		"one waits for two":                 {{By: 1, Queue: []int{2}}, {By: 2, Queue: []int{2}}},
		"one waits for two that one has":    {{By: 1, Queue: []int{2}}, {By: 1, Queue: []int{2}}},
		"the last one waits for two":        {{By: 1, Queue: []int{2, 7}}, {}, {By: 2, Queue: []int{7, 3}}},
		"the first one waits for two":       {{By: 2, Queue: []int{0}}, {}, {By: 2, Queue: []int{3, 0}}},
		"one waits for two far apart":       make([]api.Mutex, 160),
		"the last of 160 may not be":        make([]api.Mutex, 160),
	}
	all["one waits for two far apart"][0] = api.Mutex{By: 1, Queue: []int{4}}
	all["one waits for two far apart"][159] = api.Mutex{By: 2, Queue: []int{4}}
	all["the last of 160 may not be"][159] = api.Mutex{By: -1}
	return all
}
