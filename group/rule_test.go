package group_test

import (
	"math"
	"slices"
	"testing"

	"honeycomb/api"
)

// slot8 are a group's slots, from the lane 0 on: what the document says is tried on them, slot by slot.
type slot8 [8]struct {
	b          byte
	key, value uint64
}

func slotsOf(g api.Group) (r slot8) {
	for lane := range r {
		r[lane].b = byte(g.Ctrl >> (8 * lane))
		r[lane].key, r[lane].value = g.Keys[lane], g.Values[lane]
	}
	return r
}

func (r slot8) group() (g api.Group) {
	for lane, s := range r {
		g.Ctrl += uint64(s.b) << (8 * lane)
		g.Keys[lane], g.Values[lane] = s.key, s.value
	}
	return g
}

func isFull(b byte) bool { return b <= 127 }

// fullBy are the lanes of full slots.
func (r slot8) fullBy() (l []int) {
	for lane, s := range r {
		if isFull(s.b) {
			l = append(l, lane)
		}
	}
	return l
}

// mayBy is whether each control byte is one, and each key of a full slot there once.
func (r slot8) mayBy() bool {
	met := map[uint64]int{}
	for _, s := range r {
		switch {
		case isFull(s.b):
			met[s.key]++
		case s.b != 128 && s.b != 254:
			return false
		}
		if met[s.key] > 1 {
			return false
		}
	}
	return true
}

// checkBy is what goes ahead of all else, and what goes ahead of what is left.
func (r slot8) checkBy(h2 byte) api.Errno {
	switch {
	case !r.mayBy():
		return api.ErrGroup
	case h2 > 127:
		return api.ErrArg
	}
	return api.OK
}

func (r slot8) looksBy(h2 byte) (l []int, e api.Errno) {
	if e := r.checkBy(h2); e != api.OK {
		return nil, e
	}
	for lane, s := range r {
		if s.b == h2 {
			l = append(l, lane)
		}
	}
	return l, api.OK
}

func (r slot8) findBy(key uint64, h2 byte) (int, int, api.Errno) {
	l, e := r.looksBy(h2)
	if e != api.OK {
		return 0, 0, e
	}
	n := slices.IndexFunc(l, func(lane int) bool { return r[lane].key == key })
	if n < 0 {
		return 0, 0, api.ErrNone
	}
	return l[n], n + 1, api.OK
}

func (r slot8) putBy(key, value uint64, h2 byte) (api.Group, int, api.Errno) {
	if e := r.checkBy(h2); e != api.OK {
		return api.Group{}, 0, e
	}
	free := -1
	for lane := 7; lane >= 0; lane-- {
		if !isFull(r[lane].b) {
			free = lane
		} else if r[lane].key == key {
			return api.Group{}, 0, api.ErrThere
		}
	}
	if free < 0 {
		return api.Group{}, 0, api.ErrFull
	}
	r[free].b, r[free].key, r[free].value = h2, key, value
	return r.group(), free, api.OK
}

func (r slot8) setBy(lane int, value uint64) (api.Group, api.Errno) {
	switch {
	case !r.mayBy():
		return api.Group{}, api.ErrGroup
	case lane < 0 || lane > 7:
		return api.Group{}, api.ErrLane
	case !isFull(r[lane].b):
		return api.Group{}, api.ErrNone
	}
	r[lane].value = value
	return r.group(), api.OK
}

func (r slot8) dropBy(key uint64, h2 byte) (api.Group, int, api.Errno) {
	at, _, e := r.findBy(key, h2)
	if e != api.OK {
		return api.Group{}, 0, e
	}
	r[at].b = 254
	if empty, _ := slotsOf(r.group()).freeBy(); empty > 0 {
		r[at].b = 128
	}
	return r.group(), at, api.OK
}

func (r slot8) liveBy() (l []api.Slot) {
	if !r.mayBy() {
		return nil
	}
	for _, lane := range r.fullBy() {
		l = append(l, api.Slot{Key: r[lane].key, Value: r[lane].value, H2: r[lane].b})
	}
	return l
}

func (r slot8) freeBy() (empty, deleted int) {
	if !r.mayBy() {
		return 0, 0
	}
	for _, s := range r {
		switch s.b {
		case 128:
			empty++
		case 254:
			deleted++
		}
	}
	return empty, deleted
}

func (r slot8) putsBy(l []api.Slot) (api.Group, api.Errno) {
	if !r.mayBy() {
		return api.Group{}, api.ErrGroup
	}
	for _, s := range l {
		g, _, e := r.putBy(s.Key, s.Value, s.H2)
		if e != api.OK {
			return api.Group{}, e
		}
		r = slotsOf(g)
	}
	return r.group(), api.OK
}

// sameBy asks of no group whether it may be.
func (r slot8) sameBy(o slot8) bool {
	for lane, s := range r {
		if s.b != o[lane].b || isFull(s.b) && s != o[lane] {
			return false
		}
	}
	return true
}

// chance are numbers that come to the same with each run of a test.
type chance uint64

func (c *chance) word() uint64 {
	*c ^= *c << 13
	*c ^= *c >> 7
	*c ^= *c << 17
	return uint64(*c) * 0x2545f4914f6cdd1d
}

func (c *chance) below(n int) int { return int(c.word() >> 33 % uint64(n)) }

// eightKeys are keys at the edges and between; no two are the same.
var eightKeys = [8]uint64{5, 6, 0, 7, math.MaxUint64, 1 << 63, 1, 0x0101010101010101}

// fewH2s are such as a slot may have: several slots have the same one.
var fewH2s = [8]byte{0, 127, 5, 5, 5, 5, 9, 126}

// groupOf is one of a row of eight sorts, which the number says in threes: its full slots have keys of their own, in an order that chance makes; all others have some of these, too, and values.
func groupOf(n int, c *chance) api.Group {
	var r slot8
	keys := eightKeys
	for lane := range r {
		to := lane + c.below(8-lane)
		keys[lane], keys[to] = keys[to], keys[lane]
		r[lane].key, r[lane].value = keys[lane], c.word()
	}
	for lane := range r {
		switch n % 3 {
		case 0:
			r[lane].b = fewH2s[c.below(8)]
		case 1:
			r[lane].b = 128
		case 2:
			r[lane].b = 254
		}
		if n%3 != 0 {
			r[lane].key = keys[c.below(8)]
		}
		n /= 3
	}
	return r.group()
}

// groups are such as may be: each row of eight sorts.
func groups() (l []api.Group) {
	c := chance(10)
	for n := range 6561 {
		l = append(l, groupOf(n, &c))
	}
	return l
}

// few are some of the groups that may be, among them those at the edges: of one sort alone; of one slot that is of another sort; of one H2 alone.
func few() (l []api.Group) {
	c := chance(11)
	for _, n := range []int{0, 3280, 6560, 1, 2, 2187, 4374, 3279, 6559, 3280 - 2187, 6560 - 2*2187} {
		l = append(l, groupOf(n, &c))
	}
	for _, h2 := range []byte{0, 5, 127} {
		r := slotsOf(groupOf(0, &c))
		for lane := range r {
			r[lane].b = h2
		}
		l = append(l, r.group())
		r[3].b = 254
		l = append(l, r.group())
		r[6].b = 128
		l = append(l, r.group())
	}
	for n := 7; n < 6561; n += 101 {
		l = append(l, groupOf(n, &c))
	}
	return l
}

// wrongWords are groups whose control word may not be: one byte says nothing, of each lane in its turn.
func wrongWords() (l []api.Group) {
	for n, g := range few()[:24] {
		for lane := range 8 {
			r := slotsOf(g)
			r[lane].b = []byte{129, 200, 253, 255}[(n+lane)%4]
			l = append(l, r.group())
		}
	}
	return l
}

// twins are groups of which two full slots have the same key, and the same H2, or not: of each two lanes, among full, empty and deleted slots.
func twins() (l []api.Group) {
	c := chance(12)
	for one := range 8 {
		for other := range one {
			for _, n := range []int{0, 3280, 6560, c.below(6561)} {
				for _, h2 := range []byte{5, 6} {
					r := slotsOf(groupOf(n, &c))
					r[one].b, r[other].b = 5, h2
					r[one].key = r[other].key
					l = append(l, r.group())
				}
			}
		}
	}
	return l
}

// noGroups are such as may not be.
func noGroups() []api.Group {
	return append(append(wrongWords(), twins()...), api.Group{}, api.Group{Ctrl: math.MaxUint64}, api.Group{Ctrl: 0x8080808080808081})
}

// noH2s are such as no slot can have: the first one, those that other control bytes are, and others.
var noH2s = []byte{128, 129, 200, 253, 254, 255}

// noLanes are of no slot.
var noLanes = []int{-1, 8, 9, -8, -9, 16, 64, 256, 1 << 32, 1<<32 + 1, -1 << 32, math.MinInt, math.MinInt + 1, math.MaxInt - 1, math.MaxInt}

// TestRules: the groups that are tried are those that they are said to be.
func TestRules(t *testing.T) {
	sorts := map[[8]byte]bool{}
	alike, stale := 0, 0
	for _, g := range append(groups(), few()...) {
		r := slotsOf(g)
		if !r.mayBy() || r.group() != g {
			t.Fatalf("%v may not be", g)
		}
		var s [8]byte
		for lane, one := range r {
			s[lane] = max(one.b, 127)
			for other := range lane {
				if r[other].b == one.b && isFull(one.b) {
					alike++
				}
				if r[other].key == one.key {
					stale++
				}
			}
		}
		sorts[s] = true
	}
	if len(sorts) != 6561 || alike < 5000 || stale < 6561 {
		t.Errorf("%d rows of sorts; %d times the same H2, %d times the same key", len(sorts), alike, stale)
	}
	for _, g := range noGroups() {
		if slotsOf(g).mayBy() {
			t.Errorf("%v may be", g)
		}
	}
}
