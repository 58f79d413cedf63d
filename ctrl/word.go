package ctrl

import (
	"iter"

	"honeycomb/api"
	"honeycomb/lanes"
)

// kind is what a control byte says of its slot.
type kind int

const (
	full kind = iota
	empty
	deleted
	nothing // of bytes that are no control bytes
	kinds
)

func said(b byte) kind {
	switch {
	case b <= api.CtMost:
		return full
	case b == api.CtEmpty:
		return empty
	case b == api.CtDeleted:
		return deleted
	}
	return nothing
}

// sets are lanes by what their bytes say: each lane is in just one.
type sets [kinds]api.Mask

// word is looked at slot by slot: none of its methods changes it, and each may be asked of one that may not be.
type word uint64

func (w word) number() uint64 { return uint64(w) }

// bytes tells each lane, and its byte.
func (w word) bytes() iter.Seq2[int, byte] {
	return func(yield func(int, byte) bool) {
		for lane, b := range lanes.Bytes(w.number()) {
			if !yield(lane, b) {
				return
			}
		}
	}
}

// slots tells each lane, and what its byte says.
func (w word) slots() iter.Seq2[int, kind] {
	return func(yield func(int, kind) bool) {
		for lane, b := range w.bytes() {
			if !yield(lane, said(b)) {
				return
			}
		}
	}
}

// are tells the lanes whose byte says that.
func (w word) are(that kind) api.Mask {
	return where(w.slots(), func(is kind) bool { return is == that })
}

func (w word) sets() sets {
	var s sets
	for that := range kinds {
		s[that] = w.are(that)
	}
	return s
}

func (w word) mayBe() bool { return w.are(nothing) == 0 }

func (w word) stops() bool { return w.are(empty) != 0 }

// where are the lanes of which it holds.
func where[T any](all iter.Seq2[int, T], so func(one T) bool) api.Mask {
	var m api.Mask
	for lane, one := range all {
		if so(one) {
			m |= 1 << lane
		}
	}
	return m
}
