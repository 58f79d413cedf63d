package picks

import (
	"math"
	"slices"
	"testing"

	"honeycomb/api"
)

// chance are numbers that come to the same with each run of a test.
type chance uint64

func (c *chance) below(n int) int {
	*c ^= *c << 13
	*c ^= *c >> 7
	*c ^= *c << 17
	return int(uint64(*c) >> 11 % uint64(n))
}

// can is who can, of n goroutines: more often than not most of them.
func (c *chance) can(n int) []int {
	bits := 1 + c.below(1<<n-1)
	if c.below(3) > 0 {
		bits |= 1 + c.below(1<<n-1)
	}
	return subset(bits)
}

// turns are so many of n goroutines; those that are lazy are seldom chosen.
func (c *chance) turns(n, many int) []api.Turn {
	lazy := c.below(1 << n)
	l := make([]api.Turn, many)
	for at := range l {
		can := c.can(n)
		l[at] = api.Turn{Can: can, Chosen: can[c.below(len(can))]}
		if lazy>>l[at].Chosen&1 == 1 && c.below(4) > 0 {
			l[at].Chosen = can[c.below(len(can))]
		}
	}
	return l
}

// kinds are all turns that there are of n goroutines.
func kinds(n int) []api.Turn {
	var l []api.Turn
	for bits := 1; bits < 1<<n; bits++ {
		can := subset(bits)
		for _, who := range can {
			l = append(l, api.Turn{Can: can, Chosen: who})
		}
	}
	return l
}

// rows goes through all rows of up to so many turns of n goroutines.
func rows(n, most int, yield func([]api.Turn)) {
	all := kinds(n)
	var further func(l []api.Turn)
	further = func(l []api.Turn) {
		yield(l)
		if len(l) == most {
			return
		}
		for _, t := range all {
			further(append(slices.Clone(l), t))
		}
	}
	further(nil)
}

// chosen are turns of all of n goroutines, of which these are chosen.
func chosen(n int, who ...int) []api.Turn {
	var l []api.Turn
	for _, goer := range who {
		l = append(l, api.Turn{Can: subset(1<<n - 1), Chosen: goer})
	}
	return l
}

// could is whether a goroutine could step in all of these turns.
func could(l []api.Turn, goer int) bool {
	for _, t := range l {
		if !slices.Contains(t.Can, goer) {
			return false
		}
	}
	return true
}

// was is whether a goroutine was chosen in one of these turns.
func was(l []api.Turn, goer int) bool {
	return slices.ContainsFunc(l, func(t api.Turn) bool { return t.Chosen == goer })
}

// hungryBy is who is hungry, as the document says it: window by window.
func hungryBy(n int, l []api.Turn, w int) []int {
	var row []int
	for goer := range n {
		for from := 0; w >= 1 && from+w <= len(l); from++ {
			if part := l[from : from+w]; could(part, goer) && !was(part, goer) {
				row = append(row, goer)
				break
			}
		}
	}
	return row
}

func leastBy(n int, l []api.Turn) int {
	w := 1
	for len(hungryBy(n, l, w)) > 0 {
		w++
	}
	return w
}

// lapsBy is how many laps there are, as the document says it: turn by turn.
func lapsBy(n int, l []api.Turn) int {
	many, from := 0, 0
	for at := range l {
		lap := l[from : at+1]
		over := true
		for goer := range n {
			over = over && (!could(lap, goer) || was(lap, goer))
		}
		if over {
			many++
			from = at + 1
		}
	}
	return many
}

func waitBy(l []api.Turn, goer int) int {
	wait := 0
	for wait < len(l) {
		if part := l[len(l)-wait-1:]; !could(part, goer) || was(part, goer) {
			break
		}
		wait++
	}
	return wait
}

// nextBy is who waits longest, of several the least.
func nextBy(l []api.Turn, can []int) int {
	best := -1
	for _, goer := range can {
		if best < 0 || waitBy(l, goer) > waitBy(l, best) {
			best = goer
		}
	}
	return best
}

// held holds what all that look at turns tell against what they have to.
func held(t *testing.T, n int, l []api.Turn) {
	t.Helper()
	if e := Check(n, l); e != api.OK {
		t.Fatalf("Check(%d, %v): %d", n, l, e)
	}
	for w := -1; w <= len(l)+1; w++ {
		if got, want := Hungry(n, l, w), hungryBy(n, l, w); !slices.Equal(got, want) {
			t.Fatalf("Hungry(%d, %v, %d): %v, not %v", n, l, w, got, want)
		}
	}
	if got, want := Least(n, l), leastBy(n, l); got != want {
		t.Fatalf("Least(%d, %v): %d, not %d", n, l, got, want)
	}
	if got, want := Laps(n, l), lapsBy(n, l); got != want {
		t.Fatalf("Laps(%d, %v): %d, not %d", n, l, got, want)
	}
	shares := make([]int, n)
	for _, turn := range l {
		shares[turn.Chosen]++
	}
	if got := Shares(n, l); !slices.Equal(got, shares) {
		t.Fatalf("Shares(%d, %v): %v, not %v", n, l, got, shares)
	}
	for bits := 1; bits < 1<<n; bits++ {
		can := subset(bits)
		if got, e := Next(n, l, can...); got != nextBy(l, can) || e != api.OK {
			t.Fatalf("Next(%d, %v, %v): %d, %d, not %d", n, l, can, got, e, nextBy(l, can))
		}
	}
}

// P4.2 to P4.6: the chapter's examples.
func TestTurnsExamples(t *testing.T) {
	l := chosen(2, 0, 0, 1)
	if got := Hungry(2, l, 2); !slices.Equal(got, []int{1}) {
		t.Errorf("Hungry by 2: %v", got)
	}
	if got := Least(2, l); got != 3 {
		t.Errorf("Least: %d", got)
	}
	if got := Laps(2, l); got != 1 {
		t.Errorf("Laps: %d", got)
	}
	if got := Shares(2, l); !slices.Equal(got, []int{2, 1}) {
		t.Errorf("Shares: %v", got)
	}
	if who, e := Next(2, l, 0, 1); who != 0 || e != api.OK {
		t.Errorf("Next of 0 1: %d, %d", who, e)
	}
	if who, e := Next(2, l, 0); who != 0 || e != api.OK {
		t.Errorf("Next of 0: %d, %d", who, e)
	}
}

// P4.2 to P4.6: all rows of few turns of few goroutines.
func TestAllRowsOfTurns(t *testing.T) {
	for _, c := range []struct{ n, most int }{{1, 6}, {2, 6}, {3, 4}, {4, 2}, {5, 1}, {8, 1}} {
		rows(c.n, c.most, func(l []api.Turn) { held(t, c.n, l) })
	}
}

// P4.2 to P4.6: rows of many turns.
func TestManyTurns(t *testing.T) {
	c := chance(4)
	for range 600 {
		n := 1 + c.below(8)
		held(t, n, c.turns(n, c.below(40)))
	}
}

// P4.2: no turns at all, of as many goroutines as there may be.
func TestNoTurnsAtAll(t *testing.T) {
	for n := 1; n <= 8; n++ {
		for _, l := range [][]api.Turn{nil, {}} {
			held(t, n, l)
			if e := Check(n, l); e != api.OK {
				t.Errorf("Check(%d, none): %d", n, e)
			}
			if got := Hungry(n, l, 1); len(got) != 0 {
				t.Errorf("Hungry(%d, none, 1): %v", n, got)
			}
			if least, laps := Least(n, l), Laps(n, l); least != 1 || laps != 0 {
				t.Errorf("Least, Laps(%d, none): %d, %d", n, least, laps)
			}
			if got := Shares(n, l); !slices.Equal(got, make([]int, n)) {
				t.Errorf("Shares(%d, none): %v", n, got)
			}
			if who, e := Next(n, l, subset(1<<n-1)...); who != 0 || e != api.OK {
				t.Errorf("Next(%d, none, all): %d, %d", n, who, e)
			}
			if who, e := Next(n, l, n-1); who != n-1 || e != api.OK {
				t.Errorf("Next(%d, none, the last one): %d, %d", n, who, e)
			}
		}
	}
}

// nothing holds that all tell that these are no turns, or nothing.
func nothing(t *testing.T, why string, n int, l []api.Turn) {
	t.Helper()
	if e := Check(n, l); e != api.ErrTurns {
		t.Errorf("Check of %s: %d, not ErrTurns", why, e)
	}
	for _, w := range []int{math.MinInt, -1, 0, 1, 2, 3, len(l), len(l) + 1, math.MaxInt} {
		if got := Hungry(n, l, w); len(got) != 0 {
			t.Errorf("Hungry of %s, %d: %v", why, w, got)
		}
	}
	if least, laps := Least(n, l), Laps(n, l); least != 0 || laps != 0 {
		t.Errorf("Least, Laps of %s: %d, %d", why, least, laps)
	}
	if got := Shares(n, l); len(got) != 0 {
		t.Errorf("Shares of %s: %v", why, got)
	}
	for _, can := range append([][]int{{0}, {1}, {0, 1}, subset(255)}, noRows...) {
		if who, e := Next(n, l, can...); who != 0 || e != api.ErrTurns {
			t.Errorf("Next of %s, %v: %d, %d, not ErrTurns", why, can, who, e)
		}
	}
}

// P4.2, P4.5, R2: how many goroutines there may not be; ErrTurns goes ahead of ErrArg.
func TestNoSuchGoroutines(t *testing.T) {
	for _, n := range []int{math.MinInt, math.MinInt + 1, -8, -1, 0, 9, 10, 64, 256, 1 << 32, 1<<32 + 1, math.MaxInt - 1, math.MaxInt} {
		for _, l := range [][]api.Turn{nil, {}, chosen(1, 0), chosen(2, 0, 0, 1), chosen(8, 7, 0, 7, 7)} {
			nothing(t, "goroutines that there may not be", n, l)
		}
	}
}

// noTurns are none of two goroutines.
func noTurns() []api.Turn {
	l := []api.Turn{
		{},
		{Can: nil, Chosen: 1},
		{Can: []int{}, Chosen: -1},
		{Can: []int{0}, Chosen: 1},
		{Can: []int{1}, Chosen: 0},
		{Can: []int{0}, Chosen: -1},
		{Can: []int{0, 1}, Chosen: 2},
		{Can: []int{0, 1}, Chosen: -1},
		{Can: []int{0, 1}, Chosen: math.MinInt},
		{Can: []int{0, 1}, Chosen: math.MaxInt},
		{Can: []int{0, 1}, Chosen: 1 << 32},
		{Can: []int{2}, Chosen: 2},
		{Can: []int{0, 2}, Chosen: 0},
		{Can: []int{0, 2}, Chosen: 2},
		{Can: []int{0, 1, 2}, Chosen: 1},
		{Can: []int{1, 7}, Chosen: 1},
	}
	for _, row := range noRows {
		who := 0
		if len(row) > 0 {
			who = row[len(row)/2]
		}
		l = append(l, api.Turn{Can: row, Chosen: who})
	}
	return l
}

// P4.2: one that is no turn, alone, and ahead of, behind, and among others.
func TestWhatIsNoTurn(t *testing.T) {
	good := chosen(2, 0, 0, 1, 1, 0)
	for _, bad := range noTurns() {
		nothing(t, "what is no turn", 2, []api.Turn{bad})
		for at := range len(good) + 1 {
			nothing(t, "turns and what is none", 2, slices.Insert(slices.Clone(good), at, bad))
		}
	}
	for n := 1; n < 8; n++ {
		nothing(t, "turns of one more", n, chosen(n+1, 0, 0))
		nothing(t, "turns of one more, chosen", n, []api.Turn{{Can: []int{n}, Chosen: n}})
		nothing(t, "turns of one more, the last one", n, append(chosen(n, 0, 0), api.Turn{Can: []int{0, n}}))
		held(t, n+1, chosen(n+1, 0, 0))
	}
}

// P4.3: w below 1, as many as turns, and more.
func TestHungryByEdges(t *testing.T) {
	l := chosen(3, 1, 1, 1, 1)
	for _, c := range []struct {
		w    int
		want []int
	}{
		{math.MinInt, nil},
		{-4, nil},
		{-1, nil},
		{0, nil},
		{1, []int{0, 2}},
		{2, []int{0, 2}},
		{3, []int{0, 2}},
		{4, []int{0, 2}},
		{5, nil},
		{8, nil},
		{1 << 32, nil},
		{1<<32 + 1, nil},
		{math.MaxInt, nil},
	} {
		if got := Hungry(3, l, c.w); !slices.Equal(got, c.want) {
			t.Errorf("Hungry by %d: %v, not %v", c.w, got, c.want)
		}
	}
	if got := Least(3, l); got != 5 {
		t.Errorf("Least: %d, not 5", got)
	}
	if got := Hungry(1, chosen(1, 0, 0, 0), 1); len(got) != 0 {
		t.Errorf("Hungry of one that is always chosen: %v", got)
	}
	if got := Least(1, chosen(1, 0, 0, 0)); got != 1 {
		t.Errorf("Least of one that is always chosen: %d", got)
	}
}

// P4.3: one that is hungry at the beginning, in the middle and at the end; also the eighth one.
func TestHungryWherever(t *testing.T) {
	for name, l := range map[string][]api.Turn{
		"beginning": chosen(8, 0, 1, 2, 7, 3, 7, 4, 7),
		"middle":    chosen(8, 7, 0, 7, 1, 2, 3, 7, 4, 7),
		"end":       chosen(8, 7, 4, 7, 5, 7, 0, 1, 2),
	} {
		for _, w := range []int{2, 3} {
			if got := Hungry(8, l, w); !slices.Contains(got, 7) {
				t.Errorf("Hungry by %d at the %s: %v", w, name, got)
			}
		}
		if got := Hungry(8, l, 4); slices.Contains(got, 7) {
			t.Errorf("Hungry by 4 at the %s: %v", name, got)
		}
	}
}

// P4.3: who could not step in one of the turns does not wait through it.
func TestWhoCouldNotStepIsNotHungry(t *testing.T) {
	l := chosen(2, 0, 0, 0, 0, 0)
	l[2].Can = []int{0}
	if got := Hungry(2, l, 2); !slices.Equal(got, []int{1}) {
		t.Errorf("Hungry by 2: %v", got)
	}
	if got := Hungry(2, l, 3); len(got) != 0 {
		t.Errorf("Hungry by 3: %v", got)
	}
	if got := Least(2, l); got != 3 {
		t.Errorf("Least: %d", got)
	}
}

// P4.4
func TestLaps(t *testing.T) {
	alone := func(who ...int) []api.Turn {
		var l []api.Turn
		for _, goer := range who {
			l = append(l, api.Turn{Can: []int{goer}, Chosen: goer})
		}
		return l
	}
	for _, c := range []struct {
		name string
		n    int
		l    []api.Turn
		want int
	}{
		{"one goroutine, each turn a lap", 1, chosen(1, 0, 0, 0), 3},
		{"one that always is chosen, of two", 2, chosen(2, 0, 0, 0, 0), 0},
		{"a lap that ends with the last turn", 2, chosen(2, 0, 1, 1, 1, 0), 2},
		{"turns behind the last lap", 2, chosen(2, 0, 1, 1, 1, 0, 0, 0), 2},
		{"one turn behind the last lap", 3, chosen(3, 2, 1, 0, 0), 1},
		{"a lap does not go on into the next one", 2, chosen(2, 0, 1, 0, 1), 2},
		{"only the last one of eight is missing", 8, chosen(8, 0, 1, 2, 3, 4, 5, 6, 6, 6), 0},
		{"and comes", 8, chosen(8, 0, 1, 2, 3, 4, 5, 6, 6, 7), 1},
		{"alone is a lap", 8, alone(3, 4, 4, 7), 4},
		{"who could not step all the while is not asked for", 2, append(chosen(2, 0, 0), alone(0)...), 1},
		{"who could step later only is not, either", 2, append(alone(0), chosen(2, 0, 0)...), 1},
		{"nobody could all the while", 3, []api.Turn{{Can: []int{0, 1}, Chosen: 0}, {Can: []int{1, 2}, Chosen: 2}, {Can: []int{0, 2}, Chosen: 0}}, 1},
		{"who was chosen first, and then could not", 3, []api.Turn{{Can: []int{0, 1, 2}, Chosen: 0}, {Can: []int{1, 2}, Chosen: 1}, {Can: []int{1, 2}, Chosen: 2}}, 1},
	} {
		if got := Laps(c.n, c.l); got != c.want || got != lapsBy(c.n, c.l) {
			t.Errorf("%s: %d, not %d (%d by the rule)", c.name, got, c.want, lapsBy(c.n, c.l))
		}
	}
}

// P4.4: laps are told up to where one stops, and once more if they are asked for again.
func TestLapsAreTold(t *testing.T) {
	told := laps(2, chosen(2, 0, 1, 1, 1, 0, 0, 0))
	for range 2 {
		var lengths []int
		for lap := range told {
			lengths = append(lengths, len(lap))
		}
		if !slices.Equal(lengths, []int{2, 3}) {
			t.Errorf("laps of %v turns", lengths)
		}
	}
	for lap := range told {
		if len(lap) != 2 {
			t.Errorf("a first lap of %d turns", len(lap))
		}
		break
	}
}

// P4.5
func TestNext(t *testing.T) {
	few := []api.Turn{
		{Can: []int{0, 1, 2, 3}, Chosen: 0},
		{Can: []int{0, 2, 3}, Chosen: 3},
		{Can: []int{0, 1, 2}, Chosen: 0},
	} // waits: 0: 0, 1: 1, 2: 3, 3: 0, for it could not step in the last one
	for _, c := range []struct {
		name string
		n    int
		l    []api.Turn
		can  []int
		want int
	}{
		{"the longest", 4, few, []int{0, 1, 2, 3}, 2},
		{"without the longest", 4, few, []int{0, 1, 3}, 1},
		{"as long, the least", 4, few, []int{0, 3}, 0},
		{"the last one alone", 4, few, []int{3}, 3},
		{"the first one alone", 4, few, []int{0}, 0},
		{"several as long", 5, chosen(5, 1, 1), []int{1, 2, 3, 4}, 2},
		{"several as long, the first one of all", 5, chosen(5, 1, 1), []int{0, 1, 2, 3, 4}, 0},
		{"the eighth one", 8, chosen(8, 6, 5, 4, 3, 2, 1, 0), []int{0, 3, 7}, 7},
		{"who was chosen last", 8, chosen(8, 7, 0, 1), []int{7}, 7},
		{"who could not step in between", 3, []api.Turn{
			{Can: []int{0, 1, 2}, Chosen: 0},
			{Can: []int{0, 1, 2}, Chosen: 0},
			{Can: []int{0, 2}, Chosen: 2},
			{Can: []int{0, 1, 2}, Chosen: 0},
			{Can: []int{0, 1, 2}, Chosen: 0},
		}, []int{0, 1, 2}, 1}, // both wait for two turns: what lies ahead counts no more
		{"who can only now", 3, []api.Turn{{Can: []int{0, 1}, Chosen: 1}}, []int{0, 2}, 0},
		{"nobody waits", 3, []api.Turn{{Can: []int{1}, Chosen: 1}}, []int{0, 1, 2}, 0},
	} {
		if who, e := Next(c.n, c.l, c.can...); who != c.want || e != api.OK || who != nextBy(c.l, c.can) {
			t.Errorf("%s: %d, %d, not %d (%d by the rule)", c.name, who, e, c.want, nextBy(c.l, c.can))
		}
	}
}

// P4.5: what is not who can, of so many goroutines.
func TestNextOfNoRows(t *testing.T) {
	for n := 1; n <= 8; n++ {
		for _, l := range [][]api.Turn{nil, chosen(n, 0, n-1)} {
			for _, row := range append([][]int{{n}, {0, n}, {n + 1}, {n - 1, n}}, noRows...) {
				if who, e := Next(n, l, row...); who != 0 || e != api.ErrArg {
					t.Errorf("Next(%d, %v, %v): %d, %d, not ErrArg", n, l, row, who, e)
				}
			}
			if who, e := Next(n, l); who != 0 || e != api.ErrArg {
				t.Errorf("Next(%d, %v, nobody): %d, %d, not ErrArg", n, l, who, e)
			}
		}
	}
}

// P4.6
func TestShares(t *testing.T) {
	for _, c := range []struct {
		n    int
		l    []api.Turn
		want []int
	}{
		{1, chosen(1, 0, 0), []int{2}},
		{3, chosen(3, 1, 1, 1), []int{0, 3, 0}},
		{8, chosen(8, 7, 0, 7), []int{1, 0, 0, 0, 0, 0, 0, 2}},
		{8, chosen(2, 1, 0, 1), []int{1, 2, 0, 0, 0, 0, 0, 0}},
	} {
		if got := Shares(c.n, c.l); !slices.Equal(got, c.want) {
			t.Errorf("Shares(%d, %v): %v, not %v", c.n, c.l, got, c.want)
		}
	}
}

// P4.7: if always that one steps who was Next, nobody is hungry by n.
func TestNextLetsNobodyBeHungry(t *testing.T) {
	c := chance(7)
	for n := 1; n <= 8; n++ {
		for range 40 {
			var l []api.Turn
			for range 60 {
				can := c.can(n)
				who, e := Next(n, l, can...)
				if e != api.OK || !slices.Contains(can, who) {
					t.Fatalf("Next(%d, %v, %v): %d, %d", n, l, can, who, e)
				}
				l = append(l, api.Turn{Can: can, Chosen: who})
			}
			if got := Hungry(n, l, n); len(got) != 0 {
				t.Fatalf("Hungry(%d, %v, %d): %v", n, l, n, got)
			}
			if got := Least(n, l); got > n {
				t.Fatalf("Least(%d, %v): %d", n, l, got)
			}
		}
	}
}

// P4.7: if all can, Next goes round.
func TestNextGoesRound(t *testing.T) {
	for n := 1; n <= 8; n++ {
		all := subset(1<<n - 1)
		var l []api.Turn
		for at := range 5 * n {
			who, _ := Next(n, l, all...)
			if who != at%n {
				t.Fatalf("Next of %d behind %d turns: %d", n, at, who)
			}
			l = append(l, api.Turn{Can: all, Chosen: who})
		}
		if laps, least := Laps(n, l), Least(n, l); laps != 5 || least != n {
			t.Errorf("Laps, Least of %d: %d, %d", n, laps, least)
		}
	}
}

// P4.7: shares are as many as turns; where nobody is hungry by w, each w that stand together have a lap; a part lets nobody be hungry who is not.
func TestWhatFollows(t *testing.T) {
	c := chance(9)
	for range 300 {
		n := 1 + c.below(8)
		l := c.turns(n, c.below(50))
		sum := 0
		for _, many := range Shares(n, l) {
			sum += many
		}
		if sum != len(l) {
			t.Fatalf("Shares(%d, %v): %d together", n, l, sum)
		}
		least := Least(n, l)
		if least > 1 && len(Hungry(n, l, least-1)) == 0 || len(Hungry(n, l, least)) > 0 {
			t.Fatalf("Least(%d, %v): %d", n, l, least)
		}
		for w := least; w <= min(least+3, len(l)); w++ {
			for from := 0; from+w <= len(l); from++ {
				if Laps(n, l[from:from+w]) < 1 {
					t.Fatalf("%d turns from %d on of %v have no lap, nobody being hungry by %d", w, from, l, least)
				}
			}
		}
		to := c.below(len(l) + 1)
		part := l[c.below(to+1):to]
		for w := 1; w <= least; w++ {
			whole := Hungry(n, l, w)
			for _, goer := range Hungry(n, part, w) {
				if !slices.Contains(whole, goer) {
					t.Fatalf("%d is hungry by %d in %v, not in %v", goer, w, part, l)
				}
			}
		}
		if Least(n, part) > least {
			t.Fatalf("Least of %v: more than of %v", part, l)
		}
	}
}

// R3, R5: what is handed in stays, whatever is asked of it, and what is told is new memory each time.
func TestTurnsStay(t *testing.T) {
	room := chosen(3, 0, 1, 1, 1, 2, 0, 2, 2)
	deep := func() []api.Turn {
		l := slices.Clone(room)
		for at := range l {
			l[at].Can = slices.Clone(l[at].Can)
		}
		return l
	}
	was := deep()
	l := room[:5]
	can := []int{0, 1, 2, 99}
	for range 2 {
		hungry, shares := Hungry(3, l, 2), Shares(3, l)
		if !slices.Equal(hungry, []int{0, 2}) || !slices.Equal(shares, []int{1, 3, 1}) {
			t.Errorf("Hungry, Shares: %v, %v", hungry, shares)
		}
		if least, laps := Least(3, l), Laps(3, l); least != 5 || laps != 1 {
			t.Errorf("Least, Laps: %d, %d", least, laps)
		}
		if who, e := Next(3, l, can[:3]...); who != 0 || e != api.OK {
			t.Errorf("Next: %d, %d", who, e)
		}
		_, _ = append(hungry, 99), append(shares, 99)
		clear(hungry)
		clear(shares)
	}
	same := func(a, b api.Turn) bool { return slices.Equal(a.Can, b.Can) && a.Chosen == b.Chosen }
	if !slices.EqualFunc(room, was, same) || !slices.Equal(can, []int{0, 1, 2, 99}) {
		t.Errorf("turns are %v, not %v; can is %v", room, was, can)
	}
}

// R1: many turns end, too, and one that waits through all of them is told.
func TestVeryManyTurns(t *testing.T) {
	const many = 1 << 18
	all := subset(255)
	l := make([]api.Turn, many)
	for at := range l {
		l[at] = api.Turn{Can: all, Chosen: at % 7}
	}
	if got := Hungry(8, l, many); !slices.Equal(got, []int{7}) {
		t.Errorf("Hungry: %v", got)
	}
	if least, laps := Least(8, l), Laps(8, l); least != many+1 || laps != 0 {
		t.Errorf("Least, Laps: %d, %d", least, laps)
	}
	if who, e := Next(8, l, all...); who != 7 || e != api.OK {
		t.Errorf("Next: %d, %d", who, e)
	}
	for at := range l {
		l[at].Chosen = at % 8
	}
	if least, laps := Least(8, l), Laps(8, l); least != 8 || laps != many/8 {
		t.Errorf("Least, Laps in a ring: %d, %d", least, laps)
	}
	if got := Shares(8, l); !slices.Equal(got, slices.Repeat([]int{many / 8}, 8)) {
		t.Errorf("Shares in a ring: %v", got)
	}
}
