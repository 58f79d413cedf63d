package layout

import (
	"iter"

	"honeycomb/api"
)

// row is the words of a slab, and the error by which it panics, if these are not as they have to be: caught alone tells it.
type row struct {
	words []uint64
	no    api.Errno
}

// caught is what something tells; else why it can't.
func caught[T any](what func() T) (told T, e api.Errno) {
	defer func() {
		if why := recover(); why != nil {
			no, ok := why.(api.Errno)
			if !ok {
				panic(why) // of a layer that is wrong, not of what it was handed
			}
			e = no
		}
	}()
	return what(), api.OK
}

// upTo is whether a word is this one at most.
func upTo(last uint64) func(w uint64) bool {
	return func(w uint64) bool { return w <= last }
}

// between is whether a word is one of these two, or of those between.
func between(first, last uint64) func(w uint64) bool {
	return func(w uint64) bool { return first <= w && w <= last }
}

// number is a number as one of another kind, if it may be that word; else it panics. What is below 0 is a word too great for all that ask.
func number[To, From int | uint64](n From, may func(w uint64) bool, no api.Errno) To {
	if !may(uint64(n)) {
		panic(no)
	}
	return To(n)
}

// rowOf are these words, a slab's; else it panics.
func rowOf(words []uint64, no api.Errno) row {
	if len(words) != api.SlabWords {
		panic(no)
	}
	return row{words, no}
}

// cut are so many words from a place on, with no room behind them.
func (r row) cut(at, many int) []uint64 { return r.words[at : at+many : at+many] }

func (r row) put(at int, l ...uint64) { copy(r.cut(at, len(l)), l) }

// endsAt panics, if something stands from a place on.
func (r row) endsAt(at int) {
	for _, w := range r.cut(at, len(r.words)-at) {
		number[uint64](w, upTo(0), r.no)
	}
}

func packed(e api.Entry, no api.Errno) uint64 {
	slab := number[uint64](e.Slab, upTo(api.MaxSlabs-1), no)
	return slab + 1 | number[uint64](e.Gen, upTo(api.MaxGen), no)<<16
}

func unpacked(w uint64, no api.Errno) api.Entry {
	slab := number[int](w&0xffff, between(1, api.MaxSlabs), no) - 1
	return api.Entry{Slab: slab, Gen: number[uint64](w>>16, upTo(api.MaxGen), no)}
}

// entries tells those of which so many words from a place on are, in order.
func (r row) entries(at, many int) iter.Seq[api.Entry] {
	return func(yield func(api.Entry) bool) {
		for _, w := range r.cut(at, many) {
			if !yield(unpacked(w, r.no)) {
				return
			}
		}
	}
}

func dirOf(words []uint64) api.Dir {
	r := rowOf(words, api.ErrDir)
	d := api.Dir{Depth: number[int](words[api.DiDepth], upTo(api.MaxDepth), r.no)}
	many := 1 << d.Depth
	for e := range r.entries(api.DiEntries, many) {
		d.Entries = append(d.Entries, e)
	}
	r.endsAt(api.DiEntries + many)
	return d
}

func wordsOfDir(d api.Dir) []uint64 {
	r := rowOf(make([]uint64, api.SlabWords), api.ErrDir)
	depth := number[uint64](d.Depth, upTo(api.MaxDepth), r.no)
	if len(d.Entries) != 1<<depth {
		panic(r.no)
	}
	r.put(api.DiDepth, depth)
	for n, e := range d.Entries {
		r.put(api.DiEntries+n, packed(e, r.no))
	}
	return r.words
}
