// Package lanes is layer 1: the eight bytes of a word, looked at all at once. See 01-lanes.md.
package lanes

import (
	"slices"

	"honeycomb/api"
)

// Of is the word whose lanes are these bytes, from the lane 0 on.
func Of(bytes ...byte) uint64 {
	var laid [api.Lanes]byte
	copy(laid[:], bytes) // which stops at eight, and leaves 0 behind fewer
	return join(laid)
}

// Bytes are the lanes' bytes.
func Bytes(w uint64) [api.Lanes]byte {
	return each(word(w).at)
}

// Get is a lane's byte; ErrLane, if there is no such lane.
func Get(w uint64, lane int) (byte, api.Errno) {
	if noLane(lane) {
		return 0, api.ErrLane
	}
	return word(w).at(lane), api.OK
}

// Put is the word in which these lanes are b; ErrLane, if one of them is none.
func Put(w uint64, b byte, lanes ...int) (uint64, api.Errno) {
	if slices.ContainsFunc(lanes, noLane) {
		return 0, api.ErrLane
	}
	d := draft{word(w)}
	lay(slices.Values(lanes), func(int) byte { return b }, d.put)
	return d.number(), api.OK
}

// Fill is the word of which each lane is b.
func Fill(b byte) uint64 {
	return join(each(func(int) byte { return b }))
}

// Equal are the lanes whose byte is b.
func Equal(w uint64, b byte) api.Mask {
	return where(each(func(lane int) bool { return word(w).at(lane) == b }))
}

// Below are the lanes whose byte is less than b.
func Below(w uint64, b byte) api.Mask {
	return where(each(func(lane int) bool { return word(w).at(lane) < b }))
}

// Alike are the lanes in which both words have the same byte.
func Alike(v, w uint64) api.Mask {
	return where(each(func(lane int) bool { return word(v).at(lane) == word(w).at(lane) }))
}

// Blend is the word that has of w the lanes of m, of v all others.
func Blend(v, w uint64, m api.Mask) uint64 {
	d := draft{word(v)}
	lay(in(m), word(w).at, d.put)
	return d.number()
}

// First is the least lane of m, and true; 0, and false, if it has none.
func First(m api.Mask) (int, bool) {
	for lane := range in(m) {
		return lane, true
	}
	return 0, false
}

// All are the lanes of m, rising.
func All(m api.Mask) []int {
	return slices.Collect(in(m))
}

// Turn is the word whose lane n has the byte that w has in the lane n plus by.
func Turn(w uint64, by int) uint64 {
	return join(each(func(lane int) byte { return word(w).at(ring(lane, by)) }))
}
