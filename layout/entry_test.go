package layout_test

import (
	"math"
	"testing"

	"honeycomb/api"
	"honeycomb/layout"
)

func holdPack(t *testing.T, entry api.Entry) {
	t.Helper()
	want, no := packBy(entry)
	w, e := layout.Pack(entry)
	if w != want || e != no {
		t.Fatalf("Pack(%v): %d, %d, not %d, %d", entry, w, e, want, no)
	}
	if e != api.OK {
		return
	}
	if back, e := layout.Unpack(w); back != entry || e != api.OK { // P16.6
		t.Fatalf("Unpack(%d): %v, %d, not %v", w, back, e, entry)
	}
}

func holdUnpack(t *testing.T, w uint64) {
	t.Helper()
	want, no := unpackBy(w)
	entry, e := layout.Unpack(w)
	if entry != want || e != no {
		t.Fatalf("Unpack(%d): %v, %d, not %v, %d", w, entry, e, want, no)
	}
	if e != api.OK {
		return
	}
	if back, e := layout.Pack(entry); back != w || e != api.OK { // P16.6
		t.Fatalf("Pack(%v): %d, %d, not %d", entry, back, e, w)
	}
}

// P16.2, P16.6: each slab, and each bit of a Gen, alone and with all below it.
func TestPackAndUnpack(t *testing.T) {
	for slab := -3; slab < mostSlabs+3; slab++ {
		for bit := range 64 {
			for _, gen := range []uint64{1 << bit, 1<<bit - 1, 1<<bit + 1} {
				holdPack(t, api.Entry{Slab: slab, Gen: gen})
			}
		}
	}
	for low := range uint64(1 << 16) {
		holdUnpack(t, low)
		holdUnpack(t, low|lastGen<<16)
		holdUnpack(t, low|1<<56)
	}
	c := chance(3)
	for range 30000 {
		holdPack(t, c.entry())
		w := uint64(c.below(140)) | c.next()>>c.below(20)<<16
		holdUnpack(t, w)
		holdUnpack(t, w&(1<<56-1))
		holdUnpack(t, c.word())
	}
}

// P16.2: in numbers.
func TestPackInNumbers(t *testing.T) {
	for _, c := range []struct {
		entry api.Entry
		w     uint64
		e     api.Errno
	}{
		{api.Entry{}, 1, api.OK},
		{api.Entry{Slab: 127}, 128, api.OK},
		{api.Entry{Gen: 1}, 65537, api.OK},
		{api.Entry{Slab: 4, Gen: 7}, 458757, api.OK},
		{api.Entry{Gen: lastGen}, 0x00ffffffffff0001, api.OK},
		{api.Entry{Slab: 127, Gen: lastGen}, 0x00ffffffffff0080, api.OK},
		{api.Entry{Slab: 127, Gen: 1 << 39}, 0x0080000000000080, api.OK},
		{api.Entry{Slab: -1}, 0, 262},
		{api.Entry{Slab: -1, Gen: 1}, 0, 262},
		{api.Entry{Slab: 128}, 0, 262},
		{api.Entry{Gen: lastGen + 1}, 0, 262},
		{api.Entry{Slab: 127, Gen: lastGen + 1}, 0, 262},
		{api.Entry{Slab: 128, Gen: lastGen + 1}, 0, 262},
	} {
		if w, e := layout.Pack(c.entry); w != c.w || e != c.e {
			t.Errorf("Pack(%v): %d, %d, not %d, %d", c.entry, w, e, c.w, c.e)
		}
		if c.e != api.OK {
			continue
		}
		if entry, e := layout.Unpack(c.w); entry != c.entry || e != api.OK {
			t.Errorf("Unpack(%d): %v, %d, not %v", c.w, entry, e, c.entry)
		}
	}
}

// P16.2: what there is not, each time with nothing beside the error.
func TestPackOfNoEntry(t *testing.T) {
	for _, entry := range noEntries() {
		if w, e := layout.Pack(entry); w != 0 || e != 262 {
			t.Errorf("Pack(%v): %d, %d", entry, w, e)
		}
	}
	for _, w := range noWords() {
		if entry, e := layout.Unpack(w); entry != (api.Entry{}) || e != 262 {
			t.Errorf("Unpack(%d): %v, %d", w, entry, e)
		}
	}
	for _, w := range []uint64{0, 1 << 16, math.MaxUint64, 1 << 56, 1<<56 + 1, 1<<63 + 1, 129, 65535} {
		if entry, e := layout.Unpack(w); entry != (api.Entry{}) || e != 262 {
			t.Errorf("Unpack(%d): %v, %d", w, entry, e)
		}
	}
}
