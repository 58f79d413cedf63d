package layout_test

import (
	"math"
	"slices"
	"testing"

	"honeycomb/api"
	"honeycomb/layout"
)

// holdDir is of any words, whether they may be or not.
func holdDir(t *testing.T, words []uint64) api.Errno {
	t.Helper()
	want, no := dirBy(words)
	handed, asItWas := roomy(words, 77)
	got, e := layout.Dir(handed)
	if !sameDir(got, want) || e != no {
		t.Fatalf("Dir(%v): %v, %d, not %v, %d", words, got, e, want, no)
	}
	if !asItWas() {
		t.Fatalf("Dir(%v) made it %v", words, handed)
	}
	if e == api.OK {
		if back, e := layout.DirWords(got); !slices.Equal(back, words) || e != api.OK { // P16.6
			t.Fatalf("DirWords(%v): %v, %d, not %v", got, back, e, words)
		}
	}
	return e
}

// holdDirWords is of any directory, whether it may be or not.
func holdDirWords(t *testing.T, d api.Dir) api.Errno {
	t.Helper()
	was := copied(d)
	want, no := dirWordsBy(d)
	room, asItWas := roomy(d.Entries, api.Entry{Slab: 77})
	words, e := layout.DirWords(api.Dir{Depth: d.Depth, Entries: room})
	if !slices.Equal(words, want) || e != no {
		t.Fatalf("DirWords(%v): %v, %d, not %v, %d", d, words, e, want, no)
	}
	if !asItWas() {
		t.Fatalf("DirWords(%v) made it %v", was, room)
	}
	if e == api.OK {
		if back, e := layout.Dir(words); !sameDir(back, d) || e != api.OK { // P16.6
			t.Fatalf("Dir(%v): %v, %d, not %v", words, back, e, d)
		}
	}
	return e
}

// P16.4, P16.6: directories that may be, and such as may not, both ways.
func TestDirWords(t *testing.T) {
	for _, d := range someDirs() {
		if e := holdDirWords(t, d); e != api.OK {
			t.Fatalf("DirWords(%v): %d", d, e)
		}
		words, _ := dirWordsBy(d)
		if e := holdDir(t, words); e != api.OK {
			t.Fatalf("Dir(%v): %d", words, e)
		}
	}
	for _, d := range noDirs() {
		if e := holdDirWords(t, d); e != 261 {
			t.Fatalf("DirWords(%v): %d", d, e)
		}
	}
	c := chance(21)
	for range 3000 { // more entries than there may be, or fewer, of any Depth
		d := api.Dir{Depth: c.below(9) - 2}
		for range c.below(70) {
			d.Entries = append(d.Entries, c.entry())
		}
		holdDirWords(t, d)
	}
}

// P16.4: in numbers: each word at its place.
func TestDirInNumbers(t *testing.T) {
	for _, c := range []struct {
		d     api.Dir
		begin []uint64
	}{
		{api.Dir{Entries: []api.Entry{{}}}, []uint64{0, 1}},
		{api.Dir{Entries: []api.Entry{{Slab: 127, Gen: 1}}}, []uint64{0, 65664}},
		{api.Dir{Depth: 1, Entries: []api.Entry{{Slab: 4, Gen: 7}, {Slab: 2}}}, []uint64{1, 458757, 3}},
		{api.Dir{Depth: 2, Entries: []api.Entry{{Slab: 5}, {Slab: 5}, {Slab: 3}, {Slab: 4}}}, []uint64{2, 6, 6, 4, 5}},
	} {
		words := append(slices.Clone(c.begin), make([]uint64, 40-len(c.begin))...)
		if got, e := layout.DirWords(c.d); !slices.Equal(got, words) || e != api.OK {
			t.Errorf("DirWords(%v): %v, %d", c.d, got, e)
		}
		if got, e := layout.Dir(words); !sameDir(got, c.d) || e != api.OK {
			t.Errorf("Dir(%v): %v, %d", words, got, e)
		}
	}
}

// P16.4: of the greatest Depth 33 words are its own, and seven are 0.
func TestDirOfGreatestDepth(t *testing.T) {
	words := []uint64{5}
	for n := range uint64(32) {
		words = append(words, n*4+1)
	}
	words = append(words, 0, 0, 0, 0, 0, 0, 0)
	got, e := layout.Dir(words)
	if e != api.OK || got.Depth != 5 || len(got.Entries) != 32 {
		t.Fatalf("Dir: %v, %d", got, e)
	}
	for n, one := range got.Entries {
		if one != (api.Entry{Slab: 4 * n}) {
			t.Errorf("the entry %d is %v", n, one)
		}
	}
}

// P16.4: rows of other lengths, whatever they begin with.
func TestDirOfOtherLengths(t *testing.T) {
	for _, d := range someDirs()[:60] {
		words, _ := dirWordsBy(d)
		all := append(words, make([]uint64, 100)...)
		for _, n := range []int{0, 1, 2, 3, 33, 34, 38, 39, 41, 42, 65, 80, 140} {
			if got, e := layout.Dir(all[:n]); !sameDir(got, api.Dir{}) || e != 261 {
				t.Fatalf("Dir of %d words: %v, %d", n, got, e)
			}
		}
		holdDir(t, all[:40])
	}
	for _, none := range [][]uint64{nil, {}} {
		if got, e := layout.Dir(none); !sameDir(got, api.Dir{}) || e != 261 {
			t.Fatalf("Dir of none: %v, %d", got, e)
		}
	}
}

// P16.4: a word of some directory is changed: its Depth, an entry, or one behind.
func TestDirOfChangedWords(t *testing.T) {
	met := map[string]int{}
	for n, d := range someDirs()[:70] {
		words, _ := dirWordsBy(d)
		for at := range words {
			was := words[at]
			tried := []uint64{0, 1, 2, 5, 6, 128, 129, was + 1, was - 1, was ^ 1<<16, was ^ 1<<55, was ^ 1<<56, was ^ 1<<63, 1 << 32, math.MaxUint64}
			if (n+at)%9 == 0 {
				tried = append(tried, noWords()...)
			}
			for _, w := range tried {
				words[at] = w
				part := "behind"
				if at == 0 {
					part = "depth"
				} else if uint64(at) <= power(d.Depth) {
					part = "entry"
				}
				if holdDir(t, words) == api.OK {
					part += " fine"
				}
				met[part]++
			}
			words[at] = was
		}
	}
	for _, part := range []string{"behind", "behind fine", "depth", "depth fine", "entry", "entry fine"} {
		if met[part] < 40 {
			t.Errorf("so often: %v", met)
		}
	}
}

// P16.4: in numbers: what is wrong, one by one.
func TestDirOfWrongWords(t *testing.T) {
	for _, begin := range [][]uint64{
		{},
		{0},
		{0, 0},
		{0, 129},
		{0, 1, 1},
		{1, 1},
		{1, 0, 1},
		{1, 1, 1, 1},
		{1, 1, 1<<56 | 1},
		{1, 1, 1, 0, 1},
		{256, 1},
		{1 << 32, 1},
		{1<<32 | 1, 1, 1},
		{1 << 63, 1},
		{math.MaxUint64, 1},
		slices.Repeat([]uint64{6}, 40),
		slices.Repeat([]uint64{5}, 40),
		slices.Repeat([]uint64{5}, 34),
		slices.Repeat([]uint64{5}, 32),
	} {
		words := append(slices.Clone(begin), make([]uint64, 40-len(begin))...)
		if got, e := layout.Dir(words); !sameDir(got, api.Dir{}) || e != 261 {
			t.Errorf("Dir(%v): %v, %d", words, got, e)
		}
	}
	words := append(slices.Repeat([]uint64{5}, 33), make([]uint64, 7)...)
	if got, e := layout.Dir(words); len(got.Entries) != 32 || e != api.OK {
		t.Errorf("Dir(%v): %v, %d", words, got, e)
	}
	words[39] = 1
	if got, e := layout.Dir(words); !sameDir(got, api.Dir{}) || e != 261 {
		t.Errorf("Dir(%v): %v, %d", words, got, e)
	}
}

// P16.4, R3: what is told is new each time, and stays as it is, whatever becomes of what was handed in.
func TestDirSharesNoMemory(t *testing.T) {
	for _, d := range someDirs()[:40] {
		want, _ := dirWordsBy(d)
		handed := copied(d)
		words, _ := layout.DirWords(handed)
		got, _ := layout.Dir(words)
		for n := range handed.Entries {
			handed.Entries[n] = api.Entry{Slab: 9}
		}
		if !slices.Equal(words, want) {
			t.Fatalf("DirWords(%v) became %v", d, words)
		}
		for all, n := words[:cap(words)], 0; n < len(all); n++ {
			all[n] = 9
		}
		if !sameDir(got, d) {
			t.Fatalf("Dir(%v) became %v", want, got)
		}
		for all, n := got.Entries[:cap(got.Entries)], 0; n < len(all); n++ {
			all[n] = api.Entry{Slab: 9}
		}
		if again, e := layout.DirWords(d); !slices.Equal(again, want) || e != api.OK {
			t.Fatalf("DirWords(%v), again: %v, %d", d, again, e)
		}
		if again, e := layout.Dir(want); !sameDir(again, d) || e != api.OK {
			t.Fatalf("Dir(%v), again: %v, %d", want, again, e)
		}
	}
}

// P16.4: all pairs of some, those that may not be, too.
func TestSame(t *testing.T) {
	l := append(someDirs()[:40], api.Dir{}, api.Dir{Depth: -1}, api.Dir{Depth: 9}, api.Dir{Depth: math.MinInt})
	for n, d := range noDirs() {
		if n%37 == 0 {
			l = append(l, d)
		}
	}
	for _, a := range l {
		was := copied(a)
		for _, b := range l {
			if want := sameDir(a, b); layout.Same(a, b) != want || layout.Same(b, a) != want {
				t.Fatalf("Same(%v, %v), not %t", a, b, want)
			}
		}
		if !layout.Same(a, was) {
			t.Fatalf("%v is not the same as itself", a)
		}
	}
}

// P16.4: one thing is another one: the Depth, an entry's Slab or Gen, by any bit, or how many there are.
func TestSameOfEachPart(t *testing.T) {
	wrong := api.Dir{Depth: 77, Entries: []api.Entry{{Slab: -1, Gen: math.MaxUint64}, {Slab: 500}, {}}}
	for _, d := range append(someDirs()[:30], wrong) {
		hold := func(change func(d *api.Dir)) {
			t.Helper()
			other := copied(d)
			change(&other)
			if layout.Same(d, other) || layout.Same(other, d) {
				t.Fatalf("Same(%v, %v)", d, other)
			}
		}
		for bit := range 64 {
			hold(func(o *api.Dir) { o.Depth ^= 1 << bit })
			for n := range d.Entries {
				hold(func(o *api.Dir) { o.Entries[n].Slab ^= 1 << bit })
				hold(func(o *api.Dir) { o.Entries[n].Gen ^= 1 << bit })
			}
		}
		hold(func(o *api.Dir) { o.Entries = o.Entries[1:] })
		hold(func(o *api.Dir) { o.Entries = o.Entries[:len(o.Entries)-1] })
		hold(func(o *api.Dir) { o.Entries = append(o.Entries, api.Entry{}) })
		hold(func(o *api.Dir) { o.Entries = nil })
		if last := len(d.Entries) - 1; d.Entries[0] != d.Entries[last] {
			hold(func(o *api.Dir) { o.Entries[0], o.Entries[last] = o.Entries[last], o.Entries[0] })
		}
	}
	if !layout.Same(api.Dir{}, api.Dir{Entries: []api.Entry{}}) || !layout.Same(api.Dir{Entries: wrong.Entries[:0]}, api.Dir{}) {
		t.Error("nil and empty rows are not the same")
	}
}
