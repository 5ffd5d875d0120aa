package spans

import (
	"iter"

	"gridwright/api"
)

// A set tells for each day of the calendar whether it is in the set.
type set [api.MaxDay]bool

// setOf returns the days of a list. It counts how many spans begin and end on each day, so that long spans cost no more than short ones.
func setOf(l []api.Span) (days set) {
	var change [api.MaxDay + 1]int
	for _, s := range l {
		from, to := max(s.From, 0), min(s.To, api.MaxDay)
		if from < to {
			change[from]++
			change[to]--
		}
	}
	open := 0
	for day := range days {
		open += change[day]
		days[day] = open > 0
	}
	return days
}

// combine returns the normal list of the days that are kept. Whether a day is kept depends on whether a and b have it.
func combine(a, b []api.Span, kept func(inA, inB bool) bool) []api.Span {
	inA, inB := setOf(a), setOf(b)
	var days set
	for day := range days {
		days[day] = kept(inA[day], inB[day])
	}
	return days.list()
}

// list returns the normal list of a set.
func (days set) list() (l []api.Span) {
	for s := range days.spans() {
		l = append(l, s)
	}
	return l
}

// spans yields the longest spans of a set, in order.
func (days set) spans() iter.Seq[api.Span] {
	return func(yield func(api.Span) bool) {
		for from := 0; from < len(days); from++ {
			if !days[from] {
				continue
			}
			to := days.end(from)
			if !yield(api.Span{From: from, To: to}) {
				return
			}
			from = to // this day is not in the set
		}
	}
}

// end returns the first day from a day on that is not in the set, or the end of the calendar.
func (days set) end(from int) (to int) {
	for to = from; to < len(days); to++ {
		if !days[to] {
			return to
		}
	}
	return to
}
