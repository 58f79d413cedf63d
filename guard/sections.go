package guard

import (
	"iter"
	"sort"

	"honeycomb/api"
)

func isEven(count uint64) bool { return count%2 == 0 }

func isOdd(count uint64) bool { return !isEven(count) }

// moved is one more than a counter that may be moved on; ErrCount, if it may not.
func moved(count uint64, may func(uint64) bool) (uint64, api.Errno) {
	if count >= 1<<63 || !may(count) {
		return 0, api.ErrCount
	}
	return count + 1, api.OK
}

func noStep(step int) bool { return step < 0 || step > api.MaxSteps }

func noLook(k api.Look) bool { return noStep(k.First) || noStep(k.Second) || k.Second < k.First }

func areSections(l []api.Section) bool {
	ahead := 0 // the To of the section ahead: ahead of the first one a step that no section has
	for at, s := range l {
		switch {
		case s.From <= ahead || s.From > api.MaxSteps:
			return false
		case s.To == 0:
			return at == len(l)-1
		case s.To <= s.From || s.To > api.MaxSteps:
			return false
		}
		ahead = s.To
	}
	return true
}

// edges tells the steps at which the counter is moved on, rising: of each section its From, and its To, if it has one.
func edges(l []api.Section) iter.Seq[int] {
	return func(yield func(step int) bool) {
	telling:
		for _, s := range l {
			switch {
			case !yield(s.From):
				break telling
			case s.To == 0:
				break telling
			case !yield(s.To):
				break telling
			}
		}
	}
}

// counted is the counter at a step.
func counted(l []api.Section, step int) uint64 {
	var count uint64
	for edge := range edges(l) {
		if edge > step {
			break
		}
		count++
	}
	return count
}

// clearIn is whether all steps of a look are clear. Looks may be many: so the one section that could tell is sought by halves, the first that is still open at the look's first step, or behind it.
func clearIn(l []api.Section) func(api.Look) bool {
	return func(k api.Look) bool {
		at := sort.Search(len(l), func(n int) bool { return l[n].To == 0 || l[n].To > k.First })
		return at == len(l) || l[at].From > k.Second
	}
}

// gaps tells all rows of clear steps, each as long as can be, rising. None is empty, as each From is more than the To ahead of it.
func gaps(l []api.Section) iter.Seq[api.Look] {
	return func(yield func(api.Look) bool) {
		first := 0
		for _, s := range l {
			if !yield(api.Look{First: first, Second: s.From - 1}) || s.To == 0 {
				return
			}
			first = s.To
		}
		yield(api.Look{First: first, Second: api.MaxSteps})
	}
}

// next is the first clear step from a step on. Where a section ends it is clear, as the one behind it begins later.
func next(left []api.Section, step int) (int, api.Errno) {
seeking:
	switch {
	case len(left) == 0 || step < left[0].From:
		return step, api.OK
	case left[0].To == 0:
		return 0, api.ErrNone
	case step < left[0].To:
		return left[0].To, api.OK
	}
	left = left[1:]
	goto seeking
}

// made is a row of what comes of all that are told; of some nothing comes.
func made[T, U any](all iter.Seq[T], of func(T) (U, bool)) []U {
	var row []U
	for one := range all {
		if what, is := of(one); is {
			row = append(row, what)
		}
	}
	return row
}
