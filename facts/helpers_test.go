package facts_test

import (
	"cmp"
	"maps"
	"math"
	"math/rand/v2"
	"slices"

	"gridwright/api"
)

func key(kind, subject, object int) api.Key {
	return api.Key{Kind: kind, Subject: subject, Object: object}
}

func span(from, to int) api.Span { return api.Span{From: from, To: to} }

func fact(k api.Key, value, from, to, known, no int) api.Fact {
	return api.Fact{Key: k, Value: value, Valid: span(from, to), Known: known, No: no}
}

// amended is the example of the chapter: 7 on the days 2 to 5, known from 10 on; none on the day 3, known from 20 on.
func amended(k api.Key) []api.Fact {
	return []api.Fact{fact(k, 7, 2, 6, 10, 0), fact(k, -1, 3, 4, 20, 0)}
}

// after reports whether f comes after g, or is equal to it, in the order.
func after(f, g api.Fact) bool {
	return f.Known > g.Known || f.Known == g.Known && f.No >= g.No
}

// valueOf is the definition of the value of a key on a day, as known at a time.
func valueOf(l []api.Fact, k api.Key, day, known int) (value int, ok bool) {
	counts := -1
	for i, f := range l {
		if f.Key == k && f.Valid.From <= day && day < f.Valid.To && f.Known <= known && (counts < 0 || after(f, l[counts])) {
			counts = i
		}
	}
	if counts < 0 || l[counts].Value <= -1 {
		return 0, false
	}
	return l[counts].Value, true
}

// pointsOf is the definition of Points.
func pointsOf(l []api.Fact, k api.Key, from, to, known int) (p []api.Point) {
	for day := range 1024 {
		if value, ok := valueOf(l, k, day, known); ok && from <= day && day < to {
			p = append(p, api.Point{Day: day, Value: value})
		}
	}
	return p
}

// differs is the definition of a key that differs on a day.
func differs(l []api.Fact, k api.Key, day, before, after int) bool {
	value, ok := valueOf(l, k, day, before)
	other, known := valueOf(l, k, day, after)
	return ok != known || ok && value != other
}

// keysOf returns the keys of the facts of a list, in the order of the chapter.
func keysOf(l []api.Fact) []api.Key {
	keys := map[api.Key]bool{}
	for _, f := range l {
		keys[f.Key] = true
	}
	return slices.SortedFunc(maps.Keys(keys), func(a, b api.Key) int {
		if a.Kind != b.Kind {
			return cmp.Compare(a.Kind, b.Kind)
		}
		if a.Subject != b.Subject {
			return cmp.Compare(a.Subject, b.Subject)
		}
		return cmp.Compare(a.Object, b.Object)
	})
}

// changedOf is the definition of Changed.
func changedOf(l []api.Fact, before, after int) (c []api.Differ) {
	for _, k := range keysOf(l) {
		var days []api.Span
		for day := range 1024 {
			if !differs(l, k, day, before, after) {
				continue
			}
			if n := len(days); n > 0 && days[n-1].To == day {
				days[n-1].To++
			} else {
				days = append(days, span(day, day+1))
			}
		}
		if len(days) > 0 {
			c = append(c, api.Differ{Key: k, Days: days})
		}
	}
	return c
}

// alikeOf is the definition of Alike.
func alikeOf(l []api.Fact, reads []api.Read, before, after int) bool {
	for _, r := range reads {
		if !slices.Equal(pointsOf(l, r.Key, r.From, r.To, before), pointsOf(l, r.Key, r.From, r.To, after)) {
			return false
		}
	}
	return true
}

func sameDiffers(a, b []api.Differ) bool {
	return slices.EqualFunc(a, b, func(x, y api.Differ) bool {
		return x.Key == y.Key && slices.Equal(x.Days, y.Days)
	})
}

func source(seed uint64) *rand.Rand { return rand.New(rand.NewPCG(seed, 4)) }

func oneOf[T any](r *rand.Rand, l []T) T { return l[r.IntN(len(l))] }

// fewKeys are valid keys that differ in one number or in several ones, such that their order depends on each of the numbers.
func fewKeys() []api.Key {
	return []api.Key{key(0, 0, 0), key(0, 0, 1023), key(0, 4095, 1), key(15, 0, 0), key(3, 7, 2), key(3, 2, 7)}
}

// wildKeys are keys of which most are not valid.
func wildKeys() []api.Key {
	return []api.Key{key(0, 0, 0), key(-1, 5, 5), key(math.MaxInt, math.MinInt, 0), key(math.MinInt, math.MaxInt, 0), key(0, -3, math.MaxInt), key(0, -3, math.MinInt)}
}

// wildNumbers are numbers where something about days, times and values may change.
func wildNumbers() []int {
	return []int{math.MinInt, math.MinInt + 1, -1024, -2, -1, 0, 1, 2, 3, 511, 512, 1022, 1023, 1024, 1025, 1 << 20, 1<<20 + 1, 1 << 24, 1<<24 + 1, math.MaxInt - 1, math.MaxInt}
}

// days returns a span within the calendar: long, short or of one day.
func days(r *rand.Rand) api.Span {
	from := r.IntN(1024)
	length := 1 + r.IntN(oneOf(r, []int{1, 9, 200, 1024}))
	return span(from, min(from+length, 1024))
}

// validLists returns lists of up to n facts that Check accepts, with few keys, values and times.
func validLists(seed uint64, many, n int) (lists [][]api.Fact) {
	r := source(seed)
	for range many {
		keys := fewKeys()[:1+r.IntN(6)]
		var l []api.Fact
		known, no := 1, 0
		for range r.IntN(n + 1) {
			if r.IntN(2) == 0 {
				known, no = known+1+r.IntN(3), r.IntN(3)
			} else {
				no += 1 + r.IntN(2)
			}
			f := fact(oneOf(r, keys), r.IntN(5)-1, 0, 0, known, no)
			f.Valid = days(r)
			l = append(l, f)
		}
		lists = append(lists, l)
	}
	return lists
}

// wildLists returns lists of up to n facts in any order, some of them equal in the order, with spans and numbers of all kinds.
func wildLists(seed uint64, many, n int) (lists [][]api.Fact) {
	r := source(seed)
	numbers := wildNumbers()
	number := func(few int) int {
		if r.IntN(4) == 0 {
			return oneOf(r, numbers)
		}
		return r.IntN(few)
	}
	for range many {
		keys := wildKeys()[:1+r.IntN(6)]
		var l []api.Fact
		for range r.IntN(n + 1) {
			f := fact(oneOf(r, keys), number(4)-2, number(1024), number(1024), number(5), number(3))
			if r.IntN(3) > 0 {
				f.Valid = days(r)
			}
			l = append(l, f)
		}
		lists = append(lists, l)
	}
	return lists
}

func allLists(seed uint64) [][]api.Fact {
	return slices.Concat([][]api.Fact{nil, {}, {{}}}, validLists(seed, 60, 12), wildLists(seed, 90, 12), validLists(seed+1, 4, 90), wildLists(seed+1, 4, 90))
}

// timesOf returns the times around those of the facts of a list, and extreme ones.
func timesOf(l []api.Fact) []int {
	times := []int{math.MinInt, 0, math.MaxInt}
	for _, f := range l {
		times = append(times, f.Known)
		if f.Known > math.MinInt {
			times = append(times, f.Known-1)
		}
	}
	slices.Sort(times)
	return slices.Compact(times)
}
