package mutex

import (
	"iter"

	"honeycomb/api"
)

func noGoer(goer int) bool { return goer < 0 || goer >= api.MaxGoers }

// mutexes are looked at: none of their methods changes them. But for mayBe, all are asked only of such as may be.
type mutexes []api.Mutex

func (m mutexes) mayBe() bool {
	if len(m) < 1 || len(m) > api.MaxMutex {
		return false
	}
	var met [api.MaxGoers]bool // who waits, in whatever queue
	return all(m, func(one api.Mutex) bool {
		if one.By < 0 || one.By > api.MaxGoers || one.By == 0 && len(one.Queue) > 0 {
			return false
		}
		return all(one.Queue, func(goer int) bool {
			if noGoer(goer) || goer == one.By-1 || met[goer] {
				return false
			}
			met[goer] = true
			return true
		})
	})
}

// waiting tells who waits, and for which one, queue by queue.
func (m mutexes) waiting() iter.Seq2[int, int] {
	return func(yield func(goer, which int) bool) {
		for which, one := range m {
			for _, goer := range one.Queue {
				if !yield(goer, which) {
					return
				}
			}
		}
	}
}

// waits is for which one a goroutine waits, and whether it does.
func (m mutexes) waits(goer int) (int, bool) {
	for who, which := range m.waiting() {
		if who == goer {
			return which, true
		}
	}
	return 0, false
}

// isOf is whether a goroutine has one of them.
func (m mutexes) isOf(which, goer int) bool { return m[which].By == goer+1 }

// has are those that a goroutine has, rising.
func (m mutexes) has(goer int) []int {
	var row [api.MaxMutex]int
	many := 0
	for which := range m {
		if m.isOf(which, goer) {
			row[many] = which
			many++
		}
	}
	return row[:many:many]
}

// ahead is, of each goroutine, who has what it waits for, and 1; 0, if it waits for none.
func (m mutexes) ahead() [api.MaxGoers]int {
	var by [api.MaxGoers]int
	for goer, which := range m.waiting() {
		by[goer] = m[which].By
	}
	return by
}

// ring is the first one that comes back to the goroutine from which it is followed. Goroutines are tried from the least one on: so that is the least one of its ring, and no ring has a lesser one.
func (m mutexes) ring() []int {
	by := m.ahead()
	var row [api.MaxGoers]int
trying:
	for first := range api.MaxGoers {
		goer := first
		for many := range api.MaxGoers { // who leads into a ring, and is not of it, never comes back
			row[many] = goer
			switch goer = by[goer] - 1; {
			case goer < 0:
				continue trying
			case goer == first:
				return row[: many+1 : many+1]
			}
		}
	}
	return nil
}

// all is whether each one is so; it asks no further than up to the first that is not.
func all[T any](l []T, so func(T) bool) bool {
	for _, one := range l {
		if !so(one) {
			return false
		}
	}
	return true
}
