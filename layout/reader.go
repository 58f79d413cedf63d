package layout

import "honeycomb/api"

// reader reads a table out of a row.
type reader struct {
	row
	api.Table
}

func readerOf(words []uint64) *reader { return &reader{row: rowOf(words, api.ErrTable)} }

func (r *reader) table() api.Table {
	for _, read := range []func(){r.count, r.place, r.fill, r.slots} {
		read()
	}
	r.endsAt(api.TaValues + api.Slots)
	return r.Table
}

func (r *reader) count() { r.Count = r.words[api.TaCount] }

// place reads the Depth first, as that says which Prefix may be.
func (r *reader) place() {
	w := r.words[api.TaDepth]
	r.Depth = number[int](w&0xff, upTo(api.MaxDepth), r.no)
	r.Prefix = number[uint64](w>>8, prefixOf(r.Depth), r.no)
}

func (r *reader) fill() {
	r.Can = number[int](r.words[api.TaCan], upTo(api.MaxFill), r.no)
	r.Live = number[int](r.words[api.TaLive], upTo(api.MaxFill), r.no)
}

func (r *reader) slots() {
	copy(r.Ctrl[:], r.cut(api.TaCtrl, api.Groups))
	copy(r.Keys[:], r.cut(api.TaKeys, api.Slots))
	copy(r.Values[:], r.cut(api.TaValues, api.Slots))
}

// prefixOf is whether a word may be the Prefix of a table of this Depth.
func prefixOf(depth int) func(w uint64) bool { return upTo(1<<depth - 1) }

func wordsOfTable(t api.Table) []uint64 {
	r := rowOf(make([]uint64, api.SlabWords), api.ErrTable)
	depth := number[uint64](t.Depth, upTo(api.MaxDepth), r.no)
	prefix := number[uint64](t.Prefix, prefixOf(t.Depth), r.no)
	r.put(api.TaCount, t.Count)
	r.put(api.TaDepth, depth|prefix<<8)
	r.put(api.TaCan, number[uint64](t.Can, upTo(api.MaxFill), r.no))
	r.put(api.TaLive, number[uint64](t.Live, upTo(api.MaxFill), r.no))
	r.put(api.TaCtrl, t.Ctrl[:]...)
	r.put(api.TaKeys, t.Keys[:]...)
	r.put(api.TaValues, t.Values[:]...)
	return r.words
}
