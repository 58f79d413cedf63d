package picks

import (
	"iter"
	"slices"

	"honeycomb/api"
)

// left is what is left of a pick that is divided by many, 0 or more: of one below 0, too, of which % leaves what is below 0.
func left(pick, many int) int { return (pick%many + many) % many }

// areCan is whether these are who can, of n goroutines.
func areCan(n int, can ...int) bool {
	least := 0
	for _, goer := range can {
		if goer < least || goer >= n {
			return false
		}
		least = goer + 1
	}
	return len(can) > 0
}

func isTurn(n int, t api.Turn) bool {
	return areCan(n, t.Can...) && slices.Contains(t.Can, t.Chosen)
}

// passes is whether a turn passes a goroutine over: it could step, and was not chosen.
func passes(goer int) func(api.Turn) bool {
	return func(t api.Turn) bool { return t.Chosen != goer && slices.Contains(t.Can, goer) }
}

// each is what is so of each of n goroutines; 0 of those that there are not, which is no more than anybody's wait.
func each(n int, of func(goer int) int) [api.MaxGo]int {
	var all [api.MaxGo]int
	for goer := range n {
		all[goer] = of(goer)
	}
	return all
}

// run is how many turns, from the first that is told on, are so, one behind the other.
func run(turns iter.Seq2[int, api.Turn], so func(api.Turn) bool) int {
	many := 0
	for _, t := range turns {
		if !so(t) {
			break
		}
		many++
	}
	return many
}

// longest is, of each goroutine, how many turns that stand together passed it over at most.
func longest(n int, l []api.Turn) [api.MaxGo]int {
	return each(n, func(goer int) int {
		passed := passes(goer)
		far, wait := 0, 0
		for _, t := range l {
			if wait++; !passed(t) {
				wait = 0
			}
			far = max(far, wait)
		}
		return far
	})
}

// laps tells of each lap its turns. Who could step in all turns of a lap, and was chosen in none, is who was passed over in all of them: so a lap is over with the first turn up to which nobody was.
func laps(n int, l []api.Turn) iter.Seq[[]api.Turn] {
	return func(yield func([]api.Turn) bool) {
		rest := l
	telling:
		for {
			waits := each(n, func(goer int) int { return run(slices.All(rest), passes(goer)) })
			switch many := 1 + slices.Max(waits[:]); {
			case many > len(rest):
				break telling
			case !yield(rest[:many:many]):
				break telling
			default:
				rest = rest[many:]
			}
		}
	}
}

// most is that one of a row of which there is most; of several the first.
func most[T any](row []T, of func(T) int) T {
	best := row[0]
	for _, one := range row[1:] {
		if of(one) > of(best) {
			best = one
		}
	}
	return best
}
