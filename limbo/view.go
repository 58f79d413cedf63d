package limbo

import (
	"iter"

	"honeycomb/api"
)

func isEntry(e api.Entry) bool {
	return e.Slab >= 0 && e.Slab < api.MaxSlabs && e.Gen <= api.MaxGen
}

// rowOf is the number of the row in which what was retired in an epoch stands.
func rowOf(epoch uint64) int { return int(epoch % api.Buckets) }

// some is whether something is so of one of a row; it asks no further than up to that one.
func some[T any](row []T, so func(one T) bool) bool {
	for _, one := range row {
		if so(one) {
			return true
		}
	}
	return false
}

func copied(row []api.Entry) []api.Entry {
	own := make([]api.Entry, len(row))
	copy(own, row)
	return own
}

// view is a limbo that is looked at: none of its methods changes it. But for mayBe all are asked only of such as may be.
type view struct{ api.Limbo }

func (v view) mayBe() bool {
	if v.Epoch > api.MaxEpoch {
		return false
	}
	var met [api.MaxSlabs]bool
	wrong := func(e api.Entry) bool {
		if !isEntry(e) || met[e.Slab] {
			return true
		}
		met[e.Slab] = true
		return false
	}
	for n, row := range v.Rows {
		// The first epoch of which something stands in a row has the row's number.
		if v.Epoch < uint64(n) && len(row) > 0 || some(row, wrong) {
			return false
		}
	}
	return true
}

// waiting tells what waits, row by row, by the epochs in which that was retired, the oldest one first.
func (v view) waiting() iter.Seq2[uint64, []api.Entry] {
	return func(yield func(epoch uint64, row []api.Entry) bool) {
		oldest := v.Epoch - min(v.Epoch, api.Buckets-1)
		for epoch := oldest; epoch <= v.Epoch; epoch++ {
			if !yield(epoch, v.Rows[rowOf(epoch)]) {
				return
			}
		}
	}
}

// ready is what stands in the row that the next epoch will have: it was retired two epochs ago.
func (v view) ready() []api.Entry { return v.Rows[rowOf(v.Epoch+1)] }

func (v view) held() (l []api.Entry) {
	for _, row := range v.waiting() {
		l = append(l, row...)
	}
	return l
}

func (v view) when(slab int) (uint64, bool) {
	for epoch, row := range v.waiting() {
		if some(row, func(e api.Entry) bool { return e.Slab == slab }) {
			return epoch, true
		}
	}
	return 0, false
}
