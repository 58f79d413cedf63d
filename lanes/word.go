package lanes

import (
	"iter"

	"honeycomb/api"
)

// whole is the mask of all lanes.
const whole = api.Mask(1<<api.Lanes - 1)

// word is looked at lane by lane: none of its methods changes it.
type word uint64

func (w word) at(lane int) byte { return byte(w >> shift(lane)) }

func (w word) number() uint64 { return uint64(w) }

// draft is a word that is changed lane by lane.
type draft struct{ word }

// put turns over just those bits in which the lane differs from b, so that no other lane has to be looked at.
func (d *draft) put(lane int, b byte) {
	d.word ^= word(d.at(lane)^b) << shift(lane)
}

// shift is how many bits lie below a lane's byte.
func shift(lane int) int { return 8 * lane }

func noLane(lane int) bool { return lane < 0 || lane >= api.Lanes }

// ring is the lane that is by behind a lane, in a ring of all. Lanes is a power of two: so its lowest bits are right below 0, too, and where the sum wraps round.
func ring(lane, by int) int { return (lane + by) & (api.Lanes - 1) }

// in tells the lanes of a mask, rising.
func in(m api.Mask) iter.Seq[int] {
	return func(yield func(int) bool) {
	telling:
		for lane := range api.Lanes {
			switch left := m >> lane; {
			case left == 0:
				break telling
			case left&1 == 0:
				continue
			case !yield(lane):
				break telling
			}
		}
	}
}

// each is what every lane comes to.
func each[T any](of func(lane int) T) [api.Lanes]T {
	var all [api.Lanes]T
	for lane := range in(whole) {
		all[lane] = of(lane)
	}
	return all
}

// lay puts what of says of a lane, lane by lane.
func lay(lanes iter.Seq[int], of func(lane int) byte, put func(lane int, b byte)) {
	for lane := range lanes {
		put(lane, of(lane))
	}
}

// join is the word whose lanes have these bytes.
func join(bytes [api.Lanes]byte) uint64 {
	var d draft
	lay(in(whole), func(lane int) byte { return bytes[lane] }, d.put)
	return d.number()
}

// where is the mask of the lanes that are so.
func where(so [api.Lanes]bool) api.Mask {
	var m api.Mask
	for lane := range in(whole) {
		if so[lane] {
			m |= 1 << lane
		}
	}
	return m
}
