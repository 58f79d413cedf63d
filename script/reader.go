package script

import (
	"bytes"
	"iter"
	"slices"

	"honeycomb/api"
)

// reader has what it has read of a script, and the bytes that are left. Its methods panic of what can't be read, so that they need not hand on an error: read alone tells one.
type reader struct {
	api.Script
	left []byte
}

func (r *reader) read() (e api.Errno) {
	defer func() {
		if why := recover(); why != nil {
			told, ok := why.(api.Errno)
			if !ok {
				panic(why) // of a reader that is wrong, not of what it reads
			}
			e = told
		}
	}()
	r.Goers = r.between(1, api.MaxGoers)
	r.Slabs = r.between(api.LeastSlab, api.MaxSlabs)
	r.Seed = r.number()
	r.lists()
	r.Picks = slices.Collect(r.next(r.between(0, api.MaxPicks)))
	return api.OK
}

// lists reads one of each goroutine; each has room for as many calls as those ahead of it left.
func (r *reader) lists() {
	room := api.MaxCalls
next:
	if len(r.Lists) < r.Goers {
		l := r.list(room)
		r.Lists = append(r.Lists, l)
		room -= len(l)
		goto next
	}
}

func (r *reader) list(room int) []api.Call {
	var l []api.Call
	for range r.between(0, room) {
		l = append(l, r.call())
	}
	return l
}

func (r *reader) call() api.Call {
	op := r.between(api.OpLoad, api.OpLen)
	var taken [most]uint64
	at := 0
	for w := range r.next(Takes(op)) {
		taken[at] = w
		at++
	}
	return api.Call{Op: op, Key: taken[0], A: taken[1], B: taken[2]}
}

// next tells the next so many numbers, each of which is read when it is told.
func (r *reader) next(many int) iter.Seq[uint64] {
	return func(yield func(uint64) bool) {
		for range many {
			if !yield(r.number()) {
				return
			}
		}
	}
}

// between is the next number, that may be from least to most.
func (r *reader) between(least, most int) int {
	n := r.number()
	if n < uint64(least) || n > uint64(most) {
		panic(api.ErrBytes)
	}
	return int(n)
}

// number is the next one. What was reckoned from bytes has to have just these: else they were too many for it, or over 64 bits, which n has lost.
func (r *reader) number() uint64 {
	var n uint64
	for at, b := range r.left {
		n |= uint64(b%more) << (7 * at)
		if b >= more {
			continue
		}
		own := Number(n)
		if !bytes.HasPrefix(r.left, own) {
			break
		}
		r.left = r.left[len(own):]
		return n
	}
	panic(api.ErrBytes)
}
