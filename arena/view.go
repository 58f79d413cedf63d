package arena

import (
	"iter"

	"honeycomb/api"
)

// The tags are those of api, by the same numbers; behind the last one stands how many there are.
const (
	free = api.SlFree + iota
	live
	retired
	tags
)

func mayHave(slabs int) bool { return slabs >= api.LeastSlab && slabs <= api.MaxSlabs }

// view is an arena that is looked at: none of its methods changes it. But for mayBe, all are asked only of such as may be.
type view struct{ api.Arena }

func (v view) mayBe() bool {
	return mayHave(len(v.Slabs)) && all(v.Slabs, func(s api.Slab) bool {
		return s.Tag >= free && s.Tag < tags && s.Gen <= api.MaxGen
	})
}

// of tells the entries of all slabs of a tag, by their slabs.
func (v view) of(tag int) iter.Seq[api.Entry] {
	return func(yield func(api.Entry) bool) {
		for slab, s := range v.Slabs {
			if s.Tag == tag && !yield(api.Entry{Slab: slab, Gen: s.Gen}) {
				return
			}
		}
	}
}

// tag is what an entry's slab is, and whether the entry is meant; one that is not is told as free, as nothing can be done with either.
func (v view) tag(e api.Entry) (int, bool) {
	if e.Slab < 0 || e.Slab >= len(v.Slabs) || v.Slabs[e.Slab].Gen != e.Gen {
		return free, false
	}
	return v.Slabs[e.Slab].Tag, true
}

// counts are how many slabs there are of each tag.
func (v view) counts() [tags]int {
	var many [tags]int
	for _, s := range v.Slabs {
		many[s.Tag]++
	}
	return many
}

// all is whether each one is so; it asks no further than up to the first that is not.
func all[T any](l []T, so func(T) bool) bool {
	for _, one := range l {
		if !so(one) {
			return false
		}
	}
	return true
}
