package hash

import (
	"fmt"
	"math"
	"math/big"
	"strconv"

	"honeycomb/api"
)

const top = uint64(1) << 63

// chance are numbers that come to the same with each run of a test.
type chance uint64

func (c *chance) word() uint64 {
	*c ^= *c << 13
	*c ^= *c >> 7
	*c ^= *c << 17
	return uint64(*c) * 0x2545f4914f6cdd1d
}

func (c *chance) below(n int) int { return int(c.word() >> 11 % uint64(n)) }

// edges are words at which a carry, a sign, or a turn would go wrong; and some mixed ones.
func edges() []uint64 {
	l := []uint64{
		0, 1, 2, 3, 5, 6, 7, 8, 126, 127, 128, 129, 255, 256, 257,
		1<<29 - 1, 1 << 29, 1<<32 - 1, 1 << 32, 1<<35 - 1, 1 << 35, 1<<58 - 1, 1 << 58,
		top - 1, top, top + 1, math.MaxUint64 - 1, math.MaxUint64,
		0x5555555555555555, 0xaaaaaaaaaaaaaaaa, 0x0123456789abcdef, 0xfedcba9876543210,
		0xbf58476d1ce4e5b9, 0x94d049bb133111eb,
	}
	c := chance(7)
	for range 30 {
		l = append(l, c.word())
	}
	return l
}

// text is a word's bits, the highest one first.
func text(w uint64) string { return fmt.Sprintf("%064b", w) }

// number is what bits say, the highest one first; of none 0.
func number(bits string) uint64 {
	if bits == "" {
		return 0
	}
	w, err := strconv.ParseUint(bits, 2, 64)
	if err != nil {
		panic(err)
	}
	return w
}

// timesBy are the lowest 64 bits of a product.
func timesBy(w, factor uint64) uint64 {
	product := new(big.Int).Mul(new(big.Int).SetUint64(w), new(big.Int).SetUint64(factor))
	return product.Mod(product, new(big.Int).Lsh(big.NewInt(1), 64)).Uint64()
}

// turnedBy turns, bit by bit, each one whose place has, so many places above, a 1.
func turnedBy(w uint64, places int) uint64 {
	was, bits := text(w), []byte(text(w))
	for at := places; at < 64; at++ { // at stands so many places below the bit at which it looks
		if was[at-places] == '1' {
			bits[at] ^= 1 // '0' is '1' then, and the other way round
		}
	}
	return number(string(bits))
}

// ofBy is a key's hash, word by word as the document says it.
func ofBy(seed, key uint64) uint64 {
	x := uint64(0)
	for place := range 64 {
		if seed>>place&1 != key>>place&1 {
			x += 1 << place
		}
	}
	x = turnedBy(timesBy(x, 0xbf58476d1ce4e5b9), 32)
	return turnedBy(timesBy(x, 0x94d049bb133111eb), 29)
}

// partsBy is at how many bits both part: where the prefixes of one bit more are not the same any more.
func partsBy(a, b uint64) int {
	for n := range 64 {
		if text(a)[:n+1] != text(b)[:n+1] {
			return n
		}
	}
	return 64
}

// crowdBy is how many keys have each prefix.
func crowdBy(seed uint64, bits int, keys []uint64) map[uint64]int {
	met := map[uint64]bool{}
	crowd := map[uint64]int{}
	for _, key := range keys {
		if !met[key] {
			met[key] = true
			crowd[number(text(ofBy(seed, key))[:bits])]++
		}
	}
	return crowd
}

// deepestBy tries bit by bit, from none on.
func deepestBy(seed uint64, many int, keys []uint64) int {
	for bits := range 65 {
		if mostOf(crowdBy(seed, bits, keys)) <= many {
			return bits
		}
	}
	return -1 // never: no two keys have the same 64 bits
}

func mostOf(crowd map[uint64]int) (most int) {
	for _, has := range crowd {
		most = max(most, has)
	}
	return most
}

// keysOf are the keys that have these hashes.
func keysOf(seed uint64, hashes ...uint64) (keys []uint64) {
	for _, h := range hashes {
		keys = append(keys, Key(seed, h))
	}
	return keys
}

// crowds are keys of which some begin alike far, some do not, and some come several times.
func crowds(seed uint64) map[string][]uint64 {
	c := chance(11)
	var mixed, low, high []uint64
	for n := range uint64(40) {
		mixed = append(mixed, c.word())
		low = append(low, n)
		high = append(high, n<<58|c.word()>>6)
	}
	twice := append(append([]uint64(nil), mixed[:9]...), mixed[:9]...)
	return map[string][]uint64{
		"none":                          nil,
		"an empty row":                  {},
		"the key 0":                     {0},
		"the seed":                      {seed},
		"the greatest key":              {math.MaxUint64},
		"one key, three times":          {7, 7, 7},
		"the key 0, three times":        {0, 0, 0},
		"two keys, one of them twice":   {3, 4, 3},
		"two keys, one behind another":  {4, 4, 3, 3, 3},
		"keys that are next each other": low,
		"mixed keys":                    mixed,
		"mixed keys, twice":             twice,
		"parted at 0":                   keysOf(seed, 0, top),
		"parted at 0, the ends":         keysOf(seed, 0, math.MaxUint64),
		"parted at 0, the middle":       keysOf(seed, top-1, top),
		"parted at 1":                   keysOf(seed, top, top|top>>1),
		"parted at 63":                  keysOf(seed, 6, 7),
		"parted at 63, by 1":            keysOf(seed, 0, 1),
		"parted at 63, at the end":      keysOf(seed, math.MaxUint64, math.MaxUint64-1),
		"parted at 62":                  keysOf(seed, 5, 6),
		"60 bits alike":                 keysOf(seed, low[:16]...),
		"60 bits alike, and one other":  keysOf(seed, append([]uint64{top}, low[:16]...)...),
		"58 bits alike, 40 of them":     keysOf(seed, low...),
		"six bits by turns":             keysOf(seed, high...),
		"one for each number of bits":   keysOf(seed, powers()...),
	}
}

// powers are 0, and all words of one bit: of each number of bits there are two that part there.
func powers() []uint64 {
	l := []uint64{0}
	for place := range 64 {
		l = append(l, 1<<place)
	}
	return l
}

// noBitsAtAll are numbers of bits that there may not be.
func noBitsAtAll() []int {
	return []int{math.MinInt, math.MinInt + 1, -65, -64, -63, -2, -1, api.MaxBits + 1, api.MaxBits + 2, 127, 128, 255, 256, 1 << 31, 1 << 32, 1<<32 + 1, math.MaxInt - 1, math.MaxInt}
}
