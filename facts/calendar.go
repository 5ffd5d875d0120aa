package facts

import (
	"slices"

	"gridwright/api"
)

// none stands for the value of a key on a day on which it has none.
const none = -1

// A calendar has the value of a key on each day.
type calendar [api.MaxDay]int

// calendarOf returns the values that facts of one key, which are in order, give to it. It goes back from the last fact on and gives each day its value only once, so that long lists of long facts are fast.
func calendarOf(ordered []api.Fact) (values calendar) {
	open := make([]int, api.MaxDay)
	for day := range values {
		values[day], open[day] = none, day
	}
	for _, f := range slices.Backward(ordered) {
		from, _ := slices.BinarySearch(open, f.Valid.From)
		to, _ := slices.BinarySearch(open, f.Valid.To)
		if from >= to {
			continue
		}
		for _, day := range open[from:to] {
			values[day] = max(f.Value, none)
		}
		open = slices.Delete(open, from, to)
	}
	return values
}

// learned returns the days on which all the facts of a key, which it sorts, give it another value than those that are known at an earlier time.
func learned(facts []api.Fact, earlier int) []api.Span {
	if !slices.ContainsFunc(facts, func(f api.Fact) bool { return f.Known > earlier }) {
		return nil
	}
	slices.SortStableFunc(facts, inOrder)
	return differing(calendarOf(Upto(facts, earlier)), calendarOf(facts))
}

// differing returns the longest spans of days on which two calendars differ, in order.
func differing(a, b calendar) (l []api.Span) {
days:
	for from := 0; from < len(a); from++ {
		if a[from] == b[from] {
			continue
		}
		for to := from + 1; to < len(a); to++ {
			if a[to] == b[to] {
				l = append(l, api.Span{From: from, To: to})
				from = to
				continue days
			}
		}
		return append(l, api.Span{From: from, To: len(a)})
	}
	return l
}
