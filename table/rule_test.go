package table_test

import (
	"math"
	"strings"
	"testing"

	"honeycomb/api"
	"honeycomb/hash"
)

// The limits, as the document's words say them.
const (
	mostFill   = 14
	mostDepth  = 5
	leastSplit = 8
	isEmpty    = 128
	isDeleted  = 254
)

// slot is one of sixteen: its control byte, and what it has, full or not.
type slot struct {
	b          byte
	key, value uint64
}

func (s slot) full() bool { return s.b < 128 }

// book is a table, slot by slot: what the document says is tried on it.
type book struct {
	seed   uint64
	count  uint64
	depth  int
	prefix uint64
	can    int
	live   int
	slots  [16]slot
}

func bookOf(seed uint64, t api.Table) book {
	b := book{seed: seed, count: t.Count, depth: t.Depth, prefix: t.Prefix, can: t.Can, live: t.Live}
	for n := range b.slots {
		b.slots[n] = slot{byte(t.Ctrl[n/8] >> (n % 8 * 8)), t.Keys[n], t.Values[n]}
	}
	return b
}

func (b book) table() api.Table {
	t := api.Table{Count: b.count, Depth: b.depth, Prefix: b.prefix, Can: b.can, Live: b.live}
	for n, s := range b.slots {
		t.Ctrl[n/8] += uint64(s.b) << (n % 8 * 8)
		t.Keys[n], t.Values[n] = s.key, s.value
	}
	return t
}

// newBook has empty slots alone.
func newBook(seed, count uint64, depth int, prefix uint64) book {
	b := book{seed: seed, count: count, depth: depth, prefix: prefix, can: mostFill}
	for n := range b.slots {
		b.slots[n].b = isEmpty
	}
	return b
}

// hashBy is the hash of a key.
func hashBy(seed, key uint64) uint64 {
	x := (key ^ seed) * 0xbf58476d1ce4e5b9
	x = (x ^ x>>32) * 0x94d049bb133111eb
	return x ^ x>>29
}

// groupsBy are those of a key's row: there are two, so that the row is the one that its H1 says, and the other one.
func groupsBy(hash uint64) [2]int {
	if hash/128%2 == 0 {
		return [2]int{0, 1}
	}
	return [2]int{1, 0}
}

// goesBy is whether a hash goes to the book's table, which may be as far as its depth and prefix go.
func (b book) goesBy(hash uint64) bool {
	for n := range b.depth { // bit by bit, the highest one of both first
		if hash>>(63-n)&1 != b.prefix>>(b.depth-1-n)&1 {
			return false
		}
	}
	return true
}

// stopsBy is whether some slot of a group is empty.
func (b book) stopsBy(group int) bool {
	for _, s := range b.slots[8*group : 8*group+8] {
		if s.b == isEmpty {
			return true
		}
	}
	return false
}

// lookBy is the slot at which a key is found, -1 if at none, and how many keys were compared.
func (b book) lookBy(key uint64) (at, compared int) {
	h := hashBy(b.seed, key)
	for _, group := range groupsBy(h) {
		for lane := range 8 {
			s := b.slots[8*group+lane]
			if uint64(s.b) != h%128 {
				continue
			}
			compared++
			if s.key == key {
				return 8*group + lane, compared
			}
		}
		if b.stopsBy(group) {
			break
		}
	}
	return -1, compared
}

// countBy is how many slots are full, and how many full or deleted.
func (b book) countBy() (full, used int) {
	for _, s := range b.slots {
		if s.full() {
			full++
		}
		if s.b != isEmpty {
			used++
		}
	}
	return full, used
}

// counted is the same book, whose Live and Can are right.
func (b book) counted() book {
	full, used := b.countBy()
	b.live, b.can = full, mostFill-used
	return b
}

// mayBy is whether the table may be. Of two full slots with one key, of a slot whose byte is not its key's H2, and of one ahead of whose group some group stops, it would not be found where it is.
func (b book) mayBy() bool {
	if b.depth < 0 || b.depth > mostDepth || b.prefix >= uint64(math.Pow(2, float64(b.depth))) {
		return false
	}
	full, used := b.countBy()
	if b.live != full || b.can != mostFill-used || b.can < 0 {
		return false
	}
	for n, s := range b.slots {
		if !s.full() {
			if s.b != isEmpty && s.b != isDeleted {
				return false
			}
			continue
		}
		if at, _ := b.lookBy(s.key); at != n || !b.goesBy(hashBy(b.seed, s.key)) {
			return false
		}
	}
	return true
}

func (b book) findBy(key uint64) (int, int, api.Errno) {
	if !b.mayBy() {
		return 0, 0, 270
	}
	at, compared := b.lookBy(key)
	if at < 0 {
		return 0, 0, api.ErrNone
	}
	return at, compared, api.OK
}

func (b book) placeBy(key uint64) (int, api.Errno) {
	h := hashBy(b.seed, key)
	if !b.mayBy() {
		return 0, 270
	}
	if !b.goesBy(h) {
		return 0, api.ErrArg
	}
	if at, _ := b.lookBy(key); at >= 0 {
		return 0, api.ErrThere
	}
	for _, group := range groupsBy(h) {
		for n := 8 * group; n < 8*group+8; n++ {
			switch {
			case b.slots[n].full():
			case b.slots[n].b == isDeleted, b.can > 0:
				return n, api.OK
			default:
				return 0, api.ErrFull
			}
		}
	}
	return 0, api.ErrFull
}

func (b book) putBy(key, value uint64) (book, int, api.Errno) {
	at, e := b.placeBy(key)
	if e != api.OK {
		return book{}, 0, e
	}
	b.live++
	if b.slots[at].b == isEmpty {
		b.can--
	}
	b.slots[at] = slot{byte(hashBy(b.seed, key) % 128), key, value}
	return b, at, api.OK
}

func (b book) setBy(key, value uint64) (book, api.Errno) {
	at, _, e := b.findBy(key)
	if e != api.OK {
		return book{}, e
	}
	b.slots[at].value = value
	return b, api.OK
}

func (b book) dropBy(key uint64) (book, int, api.Errno) {
	at, _, e := b.findBy(key)
	if e != api.OK {
		return book{}, 0, e
	}
	b.live--
	if b.stopsBy(at / 8) {
		b.slots[at].b = isEmpty
		b.can++
	} else {
		b.slots[at].b = isDeleted
	}
	return b, at, api.OK
}

func (b book) pairsBy() (l []api.Pair) {
	if !b.mayBy() {
		return nil
	}
	for _, s := range b.slots {
		if s.full() {
			l = append(l, api.Pair{Key: s.key, Value: s.value})
		}
	}
	return l
}

func (b book) anewBy() (book, api.Errno) {
	if !b.mayBy() {
		return book{}, 270
	}
	laid, e := newBook(b.seed, b.count, b.depth, b.prefix).putsBy(b.pairsBy())
	return laid, e
}

func (b book) halvesBy() ([2]book, api.Errno) {
	if !b.mayBy() {
		return [2]book{}, 270
	}
	if b.depth == mostDepth {
		return [2]book{}, api.ErrDeep
	}
	var halves [2]book
	for n := range halves {
		halves[n] = newBook(b.seed, 0, b.depth+1, 2*b.prefix+uint64(n))
		var its []api.Pair
		for _, p := range b.pairsBy() {
			if halves[n].goesBy(hashBy(b.seed, p.Key)) {
				its = append(its, p)
			}
		}
		halves[n], _ = halves[n].putsBy(its)
	}
	return halves, api.OK
}

func (b book) putsBy(l []api.Pair) (book, api.Errno) {
	if !b.mayBy() {
		return book{}, 270
	}
	for _, p := range l {
		var e api.Errno
		if b, _, e = b.putBy(p.Key, p.Value); e != api.OK {
			return book{}, e
		}
	}
	return b, api.OK
}

// orNone is the table of a book; if that is told beside an error, nothing.
func (b book) orNone(e api.Errno) api.Table {
	if e != api.OK {
		return api.Table{}
	}
	return b.table()
}

// chance are numbers that come to the same with each run of a test.
type chance uint64

func (c *chance) word() uint64 {
	*c ^= *c << 13
	*c ^= *c >> 7
	*c ^= *c << 17
	return uint64(*c) * 0x2545f4914f6cdd1d
}

func (c *chance) below(n int) int { return int(c.word() >> 33 % uint64(n)) }

// fewH2s are such as a key may have: several keys have the same one.
var fewH2s = []uint64{0, 127, 5, 5, 5, 5, 9, 126}

// seeds are at the edges, and between.
var seeds = []uint64{5, 0, math.MaxUint64, 0x0123456789abcdef}

// key is one whose hash has that prefix of so many bits, whose row begins with that group, and that has that H2; what else there is of its hash is by chance.
func (c *chance) key(seed uint64, depth int, prefix uint64, first int, h2 uint64) uint64 {
	middle := c.word() << depth >> depth >> 8 << 8 // a shift by 64 leaves nothing
	return hash.Key(seed, prefix<<(64-depth)|middle|uint64(first)<<7|h2)
}

// going is a key that goes to a book's table: which may be there.
func (c *chance) going(b book) uint64 {
	return c.key(b.seed, b.depth, b.prefix, c.below(2), fewH2s[c.below(8)])
}

// shaped is a table each of whose slots is what the text says: f for full, e for empty, d for deleted. Keys whose row begins with the other group stand where that does not stop; slots that are not full have keys and values, too, some of them keys that the table has.
func (c *chance) shaped(seed uint64, depth int, prefix uint64, shape string) api.Table {
	b := newBook(seed, c.word(), depth, prefix)
	for n, s := range shape {
		group, other := n/8, 1-n/8
		first := group
		if !strings.Contains(shape[8*other:8*other+8], "e") && c.below(2) == 0 {
			first = other
		}
		h2 := fewH2s[c.below(8)]
		b.slots[n] = slot{byte(h2), c.key(seed, depth, prefix, first, h2), c.word()}
		switch s {
		case 'e':
			b.slots[n].b = isEmpty
		case 'd':
			b.slots[n].b = isDeleted
		}
		if stale := c.below(16); s != 'f' && stale < n && c.below(2) == 0 {
			b.slots[n].key = b.slots[stale].key
		}
	}
	return b.counted().table()
}

// sorts are eight slots, which the number says in threes.
func sorts(n int) string {
	var text []byte
	for range 8 {
		text = append(text, "fed"[n%3])
		n /= 3
	}
	return string(text)
}

// beside are eight slots that may stand beside these: two of all sixteen are empty at least.
func (c *chance) beside(eight string) string {
	for {
		other := []byte(sorts(c.below(6561)))
		more := "ffe"[c.below(3)] // else few are full, or empty, as good as all of them
		for n := range other {
			if c.below(3) > 0 {
				other[n] = more
			}
		}
		if strings.Count(eight+string(other), "e") >= 2 {
			return string(other)
		}
	}
}

// edgeShapes are of tables with no slot that is used, with one, and with as many as can be.
var edgeShapes = []string{
	"eeeeeeeeeeeeeeee", "feeeeeeeeeeeeeee", "eeeeeeeeeeeeeeef", "eeeeeeeefeeeeeee", "deeeeeeeeeeeeeee",
	"ffffffffffffffee", "eeffffffffffffff", "fffffffeefffffff", "ffffefffffeffffe", "ffffffffeeffffff", "ffffffeeffffffff", "fffffffefffffffe",
	"ddddddddddddddee", "eedddddddddddddd", "dddddddddddddeee", "dfdfdfdfdfdfdfee", "fffffffddddffeef", "ddddddddeeffffff", "ffffffffddddddee", "ffffffffeeeeeeee", "eeeeeeeeffffffff", "dddddddfeedddddd",
	"dfffffffedffffef", "ddffffffdeffffef", "ffffffffedffffef", "ffffffffdeffffef", "edffffefffffffff", "ffffffffeddddded", "fffffffffffffeee", "fffffffeefffffef",
}

// sample is a table, and the seed by which it may be.
type sample struct {
	seed uint64
	t    api.Table
}

// some are tables that may be: those at the edges, by each seed and of each Depth, with its first Prefix, the last one, and one by chance.
func some() (l []sample) {
	c := chance(17)
	for _, seed := range seeds {
		for depth := range mostDepth + 1 {
			last := uint64(1)<<depth - 1
			for n, shape := range edgeShapes {
				prefix := []uint64{0, last, c.word() & last}[n%3]
				l = append(l, sample{seed, c.shaped(seed, depth, prefix, shape)})
			}
		}
	}
	return l
}

// many are tables that may be: each eight slots in the one group, and in the other one, beside some by chance.
func many() (l []sample) {
	c := chance(18)
	for n := range 6561 {
		one, two := sorts(n), sorts(6560-n)
		for _, shape := range []string{one + c.beside(one), c.beside(two) + two} {
			if strings.Count(shape, "e") < 2 {
				continue
			}
			seed, depth := seeds[c.below(len(seeds))], c.below(mostDepth+1)
			l = append(l, sample{seed, c.shaped(seed, depth, c.word()&(1<<depth-1), shape)})
		}
	}
	return append(l, some()...)
}

// none are tables that may not be, and what is wrong with each: one thing alone.
func none() map[string][]sample {
	c := chance(19)
	l := map[string][]sample{}
	add := func(why string, b book) { l[why] = append(l[why], sample{b.seed, b.table()}) }
	for _, s := range some() {
		b := bookOf(s.seed, s.t)
		wrongNumbers(b, add)
		for n := range b.slots {
			wrongSlot(b, n, &c, add)
		}
	}
	for _, seed := range seeds {
		add("no free slot", fullOf(seed, &c))
		add("zeros", book{seed: seed})
		add("15 used", crowded(seed, "fffffffffffffffe", &c))
		add("15 used", crowded(seed, "dddddddedddddddd", &c))
	}
	return l
}

// wrongNumbers are of what is not in slots.
func wrongNumbers(b book, add func(why string, b book)) {
	for why, by := range map[string]int{"too great": 1, "too small": -1, "far too great": 16, "far too small": -1 << 32} {
		live, can, both := b, b, b
		live.live += by
		can.can += by
		both.live += by
		both.can -= by
		add("Live "+why, live)
		add("Can "+why, can)
		add("Live and Can "+why, both)
	}
	for _, depth := range []int{-1, mostDepth + 1, 64, 1 << 32, math.MinInt, math.MaxInt} {
		deep := newBook(b.seed, b.count, depth, 0)
		add("no Depth", deep)
	}
	for _, prefix := range []uint64{1 << b.depth, 1<<b.depth + b.prefix, 1 << 32, 1 << 63, math.MaxUint64} {
		far := newBook(b.seed, b.count, b.depth, prefix)
		add("no Prefix", far)
	}
}

// wrongSlot is of one slot alone.
func wrongSlot(b book, n int, c *chance, add func(why string, b book)) {
	was := b.slots[n]
	with := func(why string, s slot) {
		other := b
		other.slots[n] = s
		add(why, other.counted())
	}
	for _, byte := range []byte{129, 200, 253, 255} {
		with("no control byte", slot{byte, was.key, was.value})
	}
	if !was.full() {
		return
	}
	h := hashBy(b.seed, was.key)
	for _, bit := range []int{0, 3, 6} {
		with("a byte that is not its key's H2", slot{was.b ^ 1<<bit, was.key, was.value})
		with("a key that has not its byte as H2", slot{was.b, hash.Key(b.seed, h^1<<bit), was.value})
	}
	for bit := 64 - b.depth; bit < 64; bit++ {
		with("a key that goes elsewhere", slot{was.b, hash.Key(b.seed, h^1<<bit), was.value})
	}
	uncounted := b
	uncounted.slots[n].b = []byte{isEmpty, isDeleted}[n%2]
	add("a byte of a full slot alone", uncounted)
	for other, o := range b.slots {
		if other == n {
			continue
		}
		twice := b
		twice.slots[other] = was
		if o.full() || b.can > 0 {
			add("a key twice", twice.counted())
		}
		moved := twice
		moved.slots[n].b = isEmpty // so that its group stops
		if groupsBy(h)[0] == n/8 && other/8 != n/8 && !o.full() && b.can > 0 {
			add("a key behind a group that stops", moved.counted())
		}
	}
	elsewhere := hash.Key(b.seed, h^1<<7)
	if home := groupsBy(h)[0]; home == n/8 && b.stopsBy(1-home) {
		with("a key behind a group that stops", slot{was.b, elsewhere, was.value})
	}
}

// crowded has more slots that are used than can be, the numbers of which are told as they are.
func crowded(seed uint64, shape string, c *chance) book {
	b := bookOf(seed, c.shaped(seed, 0, 0, shape))
	b.can = 0
	b.live = min(b.live, mostFill)
	return b
}

// fullOf has no slot that is free.
func fullOf(seed uint64, c *chance) book { return crowded(seed, "ffffffffffffffff", c) }

// keysFor are keys that are tried on a table: those of all its slots, full or not; some that go to it, and some that do not.
func keysFor(s sample, c *chance) []uint64 {
	b := bookOf(s.seed, s.t)
	l := append([]uint64{}, s.t.Keys[:]...)
	for range 4 {
		l = append(l, c.going(b))
	}
	l = append(l, c.key(b.seed, b.depth, b.prefix, 0, 77), c.key(b.seed, b.depth, b.prefix, 1, 77))
	if b.depth > 0 {
		bit := 64 - b.depth + c.below(b.depth)
		l = append(l, hash.Key(b.seed, hashBy(b.seed, c.going(b))^1<<bit))
		l = append(l, hash.Key(b.seed, hashBy(b.seed, s.t.Keys[c.below(16)])^1<<bit))
	}
	return append(l, c.word(), 0, math.MaxUint64)
}

// TestRules: the tables that are tried are those that they are said to be.
func TestRules(t *testing.T) {
	if h := hashBy(5, 5); h != 0 || hash.Key(5, 0) != 5 {
		t.Errorf("the hash of 5: %d", h)
	}
	used, seconds, alike, stale := map[int]int{}, 0, 0, 0
	for _, s := range many() {
		b := bookOf(s.seed, s.t)
		if !b.mayBy() || b.table() != s.t {
			t.Fatalf("%v may not be", s)
		}
		used[mostFill-b.can]++
		met := map[uint64]bool{}
		for n, one := range b.slots {
			switch _, compared := b.lookBy(one.key); {
			case one.full() && groupsBy(hashBy(s.seed, one.key))[0] != n/8:
				seconds++
			case one.full() && compared > 1:
				alike++
			case !one.full() && met[one.key]:
				stale++
			}
			met[one.key] = one.full()
		}
	}
	for n := range mostFill + 1 {
		if used[n] < 15 {
			t.Errorf("%d slots are used in %d tables", n, used[n])
		}
	}
	if seconds < 1000 || alike < 1000 || stale < 1000 {
		t.Errorf("%d keys in the second group of their row, %d behind one of the same H2, %d in slots that are not full any more", seconds, alike, stale)
	}
	for why, l := range none() {
		for _, s := range l {
			if b := bookOf(s.seed, s.t); b.mayBy() || b.table() != s.t {
				t.Fatalf("%s: %v may be", why, s)
			}
		}
		if len(l) < 4 {
			t.Errorf("%s: %d tables", why, len(l))
		}
	}
}
