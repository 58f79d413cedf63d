package table

import (
	"iter"
	"slices"

	"honeycomb/api"
	"honeycomb/ctrl"
	"honeycomb/hash"
	"honeycomb/lanes"
	"honeycomb/layout"
	"honeycomb/probe"
)

// view is a table that is looked at, by a seed: none of its methods changes it. What can't be told leaves by a panic: tried alone tells why.
type view struct {
	api.Table
	seed uint64
}

// tried is what something tells of a table, by a seed; ErrBad, if that may not be; else why it can't.
func tried[T any](seed uint64, t api.Table, what func(v view) T) (told T, e api.Errno) {
	defer func() {
		if why := recover(); why != nil {
			no, ok := why.(api.Errno)
			if !ok {
				panic(why) // of a layer that is wrong, not of what it was handed
			}
			e = no
		}
	}()
	v := view{t, seed}
	if !v.mayBe() {
		panic(api.ErrBad)
	}
	return what(v), api.OK
}

// come is what all of these come to, one behind the other: so is what those come to that were gone through by then, at first none.
func come[One, T any](all iter.Seq[One], so T, with func(so T, one One) T) T {
	for one := range all {
		so = with(so, one)
	}
	return so
}

func slotOf(group, lane int) int { return api.Lanes*group + lane }

func groupOf(slot int) int { return slot / api.Lanes }

func laneOf(slot int) int { return slot % api.Lanes }

func isFull(b byte) bool { return b <= api.CtMost }

func isUsed(b byte) bool { return b != api.CtEmpty }

func (v view) hash(key uint64) uint64 { return hash.Of(v.seed, key) }

// goes is whether a key's hash goes to the table. It is asked of each key that a table has, of words that may be by then: so it does not ask layout, which would lay all of these anew each time.
func (v view) goes(key uint64) bool {
	prefix, e := hash.Prefix(v.hash(key), v.Depth)
	return e == api.OK && prefix == v.Prefix
}

// bytes are the control bytes of all slots.
func (v view) bytes() [api.Slots]byte {
	var all [api.Slots]byte
	for group, c := range v.Ctrl {
		eight := lanes.Bytes(c)
		copy(all[slotOf(group, 0):], eight[:])
	}
	return all
}

// many is how many slots have a control byte of which it holds.
func (v view) many(so func(b byte) bool) int {
	all := v.bytes()
	return come(slices.Values(all[:]), 0, func(n int, b byte) int {
		if so(b) {
			n++
		}
		return n
	})
}

// full tells the full slots, rising.
func (v view) full() iter.Seq[int] {
	return func(yield func(slot int) bool) {
		for slot, b := range v.bytes() {
			if isFull(b) && !yield(slot) {
				return
			}
		}
	}
}

// looks tells the groups at which one looks for a key: those of its row, up to the one whose control word stops.
func (v view) looks(key uint64) iter.Seq[int] {
	words, h1 := v.Ctrl, hash.H1(v.hash(key))
	return func(yield func(group int) bool) {
	telling:
		for i := range api.Groups {
			group, _ := probe.At(api.Groups, h1, i) // each row has so many groups
			if !yield(group) || ctrl.Stops(words[group]) {
				break telling
			}
		}
	}
}

func (v view) mayBe() bool { return v.laid() && v.counted() && v.kept() }

// laid is whether the table's words may be, and its control words.
func (v view) laid() bool {
	_, e := layout.TableWords(v.Table)
	wrong := func(c uint64) bool { return ctrl.Check(c) != api.OK }
	return e == api.OK && !slices.ContainsFunc(v.Ctrl[:], wrong)
}

// counts are what Live and Can have to be, by the slots.
func (v view) counts() (live, can int) { return v.many(isFull), api.MaxFill - v.many(isUsed) }

func (v view) counted() bool {
	live, can := v.counts()
	return v.Live == live && v.Can == can
}

// kept is whether each key that the table has is just where one looks for it.
func (v view) kept() bool {
	met := map[uint64]struct{}{}
	all := v.bytes()
keeping:
	for slot := range v.full() {
		key := v.Keys[slot]
		if _, twice := met[key]; twice || all[slot] != hash.H2(v.hash(key)) || !v.goes(key) {
			return false
		}
		met[key] = struct{}{}
		for group := range v.looks(key) {
			if group == groupOf(slot) {
				continue keeping
			}
		}
		return false // some group ahead of its own stops
	}
	return true
}

// find is the slot in which a key was found, and how many keys were compared until then.
type find struct{ slot, compared int }

// look is what looking for a key comes to, and whether the table has it.
func (v view) look(key uint64) (find, bool) {
	f := find{}
	for group := range v.looks(key) {
		match, _ := ctrl.Match(v.Ctrl[group], hash.H2(v.hash(key))) // of a control word that may be
		for _, lane := range lanes.All(match) {
			f.compared++
			if f.slot = slotOf(group, lane); v.Keys[f.slot] == key {
				return f, true
			}
		}
	}
	return find{}, false
}

// found is what looking for a key comes to that the table has.
func (v view) found(key uint64) find {
	f, there := v.look(key)
	if !there {
		panic(api.ErrNone)
	}
	return f
}

// place is the slot at which a key can be put. Groups at which one does not look lie behind one that has an empty slot: so none of them is the first that has a free one.
func (v view) place(key uint64) int {
	if !v.goes(key) {
		panic(api.ErrArg)
	}
	if _, there := v.look(key); there {
		panic(api.ErrThere)
	}
seeking:
	for group := range v.looks(key) {
		_, empty, deleted := ctrl.Sets(v.Ctrl[group])
		lane, free := lanes.First(empty | deleted)
		switch {
		case !free:
			continue
		case v.Can == 0 && empty>>lane&1 == 1:
			break seeking
		}
		return slotOf(group, lane)
	}
	panic(api.ErrFull)
}

func (v view) pairs() []api.Pair {
	return come(v.full(), nil, func(l []api.Pair, slot int) []api.Pair {
		return append(l, api.Pair{Key: v.Keys[slot], Value: v.Values[slot]})
	})
}
