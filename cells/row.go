package cells

import (
	"iter"

	"honeycomb/api"
)

func noCells(many int) bool { return many < 1 || many > api.MaxCells }

func noCell(many, at int) bool { return at < 0 || at >= many }

// copied are the same words in memory of their own, which may be changed.
func copied(words []uint64) []uint64 {
	cells := make([]uint64, len(words))
	copy(cells, words)
	return cells
}

// of tells those marks that are a cell's, in the order in which marks come.
func of(marks iter.Seq2[int, api.Mark], at int) iter.Seq[api.Mark] {
	return func(yield func(api.Mark) bool) {
		for _, m := range marks {
			if m.At == at && !yield(m) {
				return
			}
		}
	}
}
