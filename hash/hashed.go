package hash

import (
	"math/bits"

	"honeycomb/api"
)

// low is how many bits of a hash its H2 has.
const low = 7

// By so many places a hash is turned, first between the two factors, and last behind them.
const (
	firstTurn = 32
	lastTurn  = 29
)

// hashed is a hash, which is asked for what comes of it.
type hashed uint64

func (h hashed) number() uint64 { return uint64(h) }

func (h hashed) h1() uint64 { return uint64(h >> low) }

func (h hashed) h2() byte { return byte(h & (1<<low - 1)) }

// prefix is asked of no bits that there may not be.
func (h hashed) prefix(many int) uint64 { return uint64(h >> (api.MaxBits - many)) }

func (h hashed) parts(other hashed) int { return bits.LeadingZeros64(uint64(h ^ other)) }

func noBits(many int) bool { return many < 0 || many > api.MaxBits }

// draft is a hash that is being made, or taken back to what it was made of.
type draft struct{ hashed }

// made is the hash of a key.
func made(seed, key uint64) draft {
	d := draft{hashed(seed ^ key)}
	d.times(api.HashOne)
	d.turn(firstTurn)
	d.times(api.HashTwo)
	d.turn(lastTurn)
	return d
}

// unmade is what a hash was made of, the key with the seed's bits turned: all that made does, taken back from the end on.
func unmade(hash uint64) draft {
	d := draft{hashed(hash)}
	d.unturn(lastTurn)
	d.times(inverse(api.HashTwo))
	d.unturn(firstTurn)
	d.times(inverse(api.HashOne))
	return d
}

func (d *draft) times(factor uint64) { d.hashed *= hashed(factor) }

// turn turns each bit whose place has, so many places above, a 1.
func (d *draft) turn(places int) { d.hashed ^= d.hashed >> places }

// unturn takes a turn back. A bit was turned by the one above it as that was ahead of the turn, which itself was turned by the next one above: so all of these count, up to the highest.
func (d *draft) unturn(places int) {
	turned := d.hashed
	for far := places; far < api.MaxBits; far += places {
		d.hashed ^= turned >> far
	}
}

// inverse is the factor that takes back what an odd one does. An odd factor takes back itself in the lowest three bits, and each round makes twice as many right.
func inverse(factor uint64) uint64 {
	back := factor
seeking:
	if product := factor * back; product != 1 {
		back *= 2 - product
		goto seeking
	}
	return back
}
