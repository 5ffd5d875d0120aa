package spans

import (
	"math"
	"slices"
	"testing"

	"gridwright/api"
)

// has is the definition of the days of a list.
func has(l []api.Span, m int) bool {
	for _, s := range l {
		if 0 <= m && m <= 1023 && s.From <= m && m < s.To {
			return true
		}
	}
	return false
}

// daysOf returns the days of a list, by the definition.
func daysOf(l []api.Span) (days [1024]bool) {
	for m := range days {
		days[m] = has(l, m)
	}
	return days
}

// isNormal reports whether l is the normal list of the days, by the definition: each day lies in a span, the spans are in increasing order, and the day before and the day after a span are not in the set.
func isNormal(l []api.Span, days [1024]bool) bool {
	end := -1
	for _, s := range l {
		if s.From <= end || s.From < 0 || s.To <= s.From || s.To > 1024 {
			return false
		}
		end = s.To
	}
	return daysOf(l) == days
}

func span(from, to int) api.Span { return api.Span{From: from, To: to} }

// list returns the spans from bounds[0] to bounds[1], from bounds[2] to bounds[3], and so on.
func list(bounds ...int) (l []api.Span) {
	for i := 0; i < len(bounds); i += 2 {
		l = append(l, span(bounds[i], bounds[i+1]))
	}
	return l
}

// edges are the numbers where something about spans may change.
func edges() []int {
	return []int{math.MinInt, math.MinInt + 1, -1024, -2, -1, 0, 1, 2, 511, 512, 1022, 1023, 1024, 1025, 2048, math.MaxInt - 1, math.MaxInt}
}

// spansOfEdges returns all spans between two edges, also those that are empty or backward.
func spansOfEdges() (l []api.Span) {
	for _, from := range edges() {
		for _, to := range edges() {
			l = append(l, span(from, to))
		}
	}
	return l
}

// lists returns lists of up to n spans. Wide spans are rare, so that long lists have gaps too.
func lists(many, n int) (l [][]api.Span) {
	state := uint32(many)
	next := func(below int) int {
		state = state*1664525 + 1013904223
		return int(state>>8) % below
	}
	e := edges()
	for range many {
		var spans []api.Span
		for range next(n + 1) {
			switch from := next(1100) - 40; next(25) {
			case 0:
				spans = append(spans, span(e[next(len(e))], e[next(len(e))]))
			case 1:
				spans = append(spans, span(from, next(1100)-40))
			case 2, 3:
				spans = append(spans, span(from, from-next(9)))
			case 4, 5, 6, 7:
				spans = append(spans, span(from, from+next(120)))
			default:
				spans = append(spans, span(from, from+next(25)))
			}
		}
		l = append(l, spans)
	}
	return l
}

// subsets returns a list of single days for each subset of days at both ends of the calendar, the days not in order.
func subsets() (l [][]api.Span) {
	days := [...]int{1022, 0, 1023, 2, 1, 1020, 1021}
	for bits := range 1 << len(days) {
		var spans []api.Span
		for i, day := range days {
			if bits>>i&1 == 1 {
				spans = append(spans, span(day, day+1))
			}
		}
		l = append(l, spans)
	}
	return l
}

// P3.1
func TestCheck(t *testing.T) {
	for i, x := range []struct {
		l    []api.Span
		want api.Errno
	}{
		{nil, api.OK},
		{[]api.Span{}, api.OK},
		{list(0, 1024), api.OK},
		{list(0, 1), api.OK},
		{list(1023, 1024), api.OK},
		{list(20, 30, 5, 10), api.OK},
		{list(5, 10, 5, 10), api.OK},
		{list(5, 10, 7, 12, 0, 1024), api.OK},
		{list(5, 10, 10, 12), api.OK},
		{list(0, 0), api.ErrSpans},
		{list(1024, 1024), api.ErrSpans},
		{list(1023, 1025), api.ErrSpans},
		{list(-1, 1), api.ErrSpans},
		{list(7, 7), api.ErrSpans},
		{list(8, 7), api.ErrSpans},
		{list(0, 5, 7, 7), api.ErrSpans},
		{list(7, 7, 0, 5), api.ErrSpans},
		{list(0, 5, -1, 4, 6, 9), api.ErrSpans},
		{list(0, 5, 0, 1025, 6, 9), api.ErrSpans},
	} {
		if e := Check(x.l); e != x.want {
			t.Error(i, e)
		}
	}
}

// P3.1
func TestCheckOfEdges(t *testing.T) {
	for _, s := range spansOfEdges() {
		want := api.ErrSpans
		if 0 <= s.From && s.From < s.To && s.To <= 1024 {
			want = api.OK
		}
		for i, l := range [][]api.Span{{s}, {span(3, 4), s}, {s, span(3, 4)}} {
			if e := Check(l); e != want {
				t.Error(s, i, e)
			}
		}
	}
}

// P3.1
func TestNormal(t *testing.T) {
	for i, x := range []struct{ l, want []api.Span }{
		{nil, nil},
		{[]api.Span{}, nil},
		{list(5, 5), nil},
		{list(9, 5), nil},
		{list(10, 20, 15, 30), list(10, 30)},
		{list(15, 30, 10, 20), list(10, 30)},
		{list(10, 20, 20, 30), list(10, 30)},
		{list(20, 30, 10, 20), list(10, 30)},
		{list(10, 20, 21, 30), list(10, 20, 21, 30)},
		{list(21, 30, 10, 20), list(10, 20, 21, 30)},
		{list(10, 30, 12, 14, 13, 20), list(10, 30)},
		{list(10, 20, 10, 20), list(10, 20)},
		{list(10, 20, 30, 40, 18, 32), list(10, 40)},
		{list(30, 5, 3, 4, 7, 7), list(3, 4)},
		{list(-5, 2000), list(0, 1024)},
		{list(-5, 0, 1024, 2000), nil},
		{list(-5, 1, 1023, 2000), list(0, 1, 1023, 1024)},
		{list(math.MinInt, math.MaxInt), list(0, 1024)},
		{list(math.MaxInt, math.MinInt), nil},
		{list(0, 1024), list(0, 1024)},
		{list(1023, 1024, 0, 1), list(0, 1, 1023, 1024)},
		{list(0, 512, 512, 1024), list(0, 1024)},
	} {
		if got := Normal(x.l); !slices.Equal(got, x.want) {
			t.Error(i, got)
		}
	}
}

// P3.1
func TestNormalOfEdges(t *testing.T) {
	for _, s := range spansOfEdges() {
		for _, l := range [][]api.Span{{s}, {s, s}, {s, span(511, 513)}, {span(0, 1), s, span(1023, 1024)}} {
			if got := Normal(l); !isNormal(got, daysOf(l)) {
				t.Error(l, got)
			}
		}
	}
}

// P3.1
func TestNormalOfManyLists(t *testing.T) {
	for _, l := range slices.Concat(lists(1500, 12), lists(100, 150), subsets()) {
		if got := Normal(l); !isNormal(got, daysOf(l)) {
			t.Error(l, got)
		}
	}
}

// P3.1
func TestNormalOfMostSpans(t *testing.T) {
	var even []api.Span
	for day := 0; day < 1024; day += 2 {
		even = append(even, span(day, day+1))
	}
	backward := slices.Clone(even)
	slices.Reverse(backward)
	if got := Normal(backward); !slices.Equal(got, even) {
		t.Error(len(got), "spans")
	}
}

// P3.1
func TestNormalOfALongList(t *testing.T) {
	l := slices.Repeat(list(0, 1024, 3, 1000, -9, 2000, math.MinInt, math.MaxInt), 500000)
	if got := Normal(l); !slices.Equal(got, list(0, 1024)) {
		t.Error(got)
	}
}

// An operation is one of the functions that combine sets, with its definition.
type operation struct {
	name    string
	combine func(a, b []api.Span) []api.Span
	kept    func(inA, inB bool) bool
}

func operations() []operation {
	return []operation{
		{"union", Union, func(inA, inB bool) bool { return inA || inB }},
		{"meet", Meet, func(inA, inB bool) bool { return inA && inB }},
		{"minus", Minus, func(inA, inB bool) bool { return inA && !inB }},
	}
}

// checkOperations compares what the operations return with their definitions.
func checkOperations(t *testing.T, a, b []api.Span) {
	t.Helper()
	inA, inB := daysOf(a), daysOf(b)
	for _, x := range operations() {
		var want [1024]bool
		for m := range want {
			want[m] = x.kept(inA[m], inB[m])
		}
		if got := x.combine(a, b); !isNormal(got, want) {
			t.Error(x.name, a, b, got)
		}
	}
}

// P3.2
func TestOperations(t *testing.T) {
	all := list(0, 1024)
	for i, x := range []struct{ a, b, union, meet, minus []api.Span }{
		{nil, nil, nil, nil, nil},
		{[]api.Span{}, nil, nil, nil, nil},
		{all, list(0, 10), all, list(0, 10), list(10, 1024)},
		{list(0, 10), all, all, list(0, 10), nil},
		{all, all, all, all, nil},
		{all, nil, all, nil, all},
		{nil, all, all, nil, nil},
		{all, list(500, 501), all, list(500, 501), list(0, 500, 501, 1024)},
		{all, list(1014, 1024), all, list(1014, 1024), list(0, 1014)},
		{list(10, 20), list(20, 30), list(10, 30), nil, list(10, 20)},
		{list(20, 30), list(10, 20), list(10, 30), nil, list(20, 30)},
		{list(10, 20), list(21, 30), list(10, 20, 21, 30), nil, list(10, 20)},
		{list(10, 20), list(15, 30), list(10, 30), list(15, 20), list(10, 15)},
		{list(10, 30), list(15, 20), list(10, 30), list(15, 20), list(10, 15, 20, 30)},
		{list(15, 30, 10, 20), list(12, 14, 12, 16), list(10, 30), list(12, 16), list(10, 12, 16, 30)},
		{list(9, 5, 7, 7), list(3, 4), list(3, 4), nil, nil},
		{list(-50, 5), list(-20, 3), list(0, 5), list(0, 3), list(3, 5)},
		{list(1020, 3000), list(1022, 1023), list(1020, 1024), list(1022, 1023), list(1020, 1022, 1023, 1024)},
		{list(-9, 0, 1024, 1030), list(-9, 0), nil, nil, nil},
		{list(math.MinInt, math.MaxInt), list(5, 6), all, list(5, 6), list(0, 5, 6, 1024)},
	} {
		union, meet, minus := Union(x.a, x.b), Meet(x.a, x.b), Minus(x.a, x.b)
		if !slices.Equal(union, x.union) || !slices.Equal(meet, x.meet) || !slices.Equal(minus, x.minus) {
			t.Error(i, union, meet, minus)
		}
	}
}

// P3.2
func TestOperationsOnSubsets(t *testing.T) {
	l := subsets()
	for _, a := range l {
		for _, b := range l {
			inA, inB := daysOf(a), daysOf(b)
			both := Meet(a, b)
			if len(Minus(a, b)) == 0 != (daysOf(both) == inA) || len(Minus(b, a)) == 0 != (daysOf(both) == inB) {
				t.Error(a, b, both)
			}
		}
	}
	for i, a := range l {
		for k := i % 5; k < len(l); k += 5 {
			checkOperations(t, a, l[k])
		}
	}
}

// P3.2
func TestOperationsOnEdges(t *testing.T) {
	l := spansOfEdges()
	for i, a := range l {
		for k := i % 17; k < len(l); k += 17 {
			checkOperations(t, []api.Span{a}, []api.Span{l[k]})
		}
	}
}

// P3.2
func TestOperationsOnManyLists(t *testing.T) {
	first, second := lists(1200, 9), lists(1201, 9)
	for i, a := range first {
		checkOperations(t, a, second[i])
	}
	for _, a := range lists(12, 120) {
		for _, b := range lists(13, 90) {
			checkOperations(t, a, b)
		}
	}
}

// P3.3
func TestHas(t *testing.T) {
	for i, x := range []struct {
		l    []api.Span
		day  int
		want bool
	}{
		{nil, 0, false},
		{list(5, 8), 4, false},
		{list(5, 8), 5, true},
		{list(5, 8), 7, true},
		{list(5, 8), 8, false},
		{list(5, 5), 5, false},
		{list(8, 5), 6, false},
		{list(5, 8, 1, 2), 1, true},
		{list(9, 4, 1, 1, 5, 8), 6, true},
		{list(0, 1024), 0, true},
		{list(0, 1024), 1023, true},
		{list(0, 1024), 1024, false},
		{list(-5, 2000), -1, false},
		{list(-5, 2000), 0, true},
		{list(-5, 2000), 1023, true},
		{list(-5, 2000), 1024, false},
		{list(math.MinInt, math.MaxInt), math.MinInt, false},
		{list(math.MinInt, math.MaxInt), math.MaxInt - 1, false},
		{list(math.MinInt, math.MaxInt), 512, true},
	} {
		if got := Has(x.l, x.day); got != x.want {
			t.Error(i, got)
		}
	}
}

// P3.3
func TestHasInManyLists(t *testing.T) {
	for _, l := range slices.Concat(lists(400, 9), subsets()) {
		for day := -60; day < 1100; day++ {
			if Has(l, day) != has(l, day) {
				t.Error(l, day)
			}
		}
		for _, day := range edges() {
			if Has(l, day) != has(l, day) {
				t.Error(l, day)
			}
		}
	}
}

// covers is the definition of Covers. Outside the calendar it looks at one number only, because a list has none of them.
func covers(l []api.Span, s api.Span) bool {
	if s.From >= s.To {
		return true
	}
	if s.From < 0 || s.To > 1024 {
		return false
	}
	for m := s.From; m < s.To; m++ {
		if !has(l, m) {
			return false
		}
	}
	return true
}

// P3.3
func TestCovers(t *testing.T) {
	wide := list(-5, 2000)
	for i, x := range []struct {
		l    []api.Span
		s    api.Span
		want bool
	}{
		{nil, span(7, 7), true},
		{nil, span(9, 7), true},
		{nil, span(0, 0), true},
		{nil, span(-7, -7), true},
		{nil, span(5000, -5000), true},
		{nil, span(5000, 5000), true},
		{nil, span(math.MaxInt, math.MinInt), true},
		{nil, span(7, 8), false},
		{list(0, 10, 10, 20), span(5, 15), true},
		{list(10, 20, 0, 10), span(0, 20), true},
		{list(0, 10, 11, 20), span(5, 15), false},
		{list(0, 10, 11, 20), span(10, 11), false},
		{list(0, 10, 11, 20), span(11, 20), true},
		{list(5, 10), span(5, 10), true},
		{list(5, 10), span(4, 10), false},
		{list(5, 10), span(5, 11), false},
		{list(5, 10), span(9, 10), true},
		{list(10, 5), span(6, 7), false},
		{wide, span(0, 1024), true},
		{wide, span(-1, 1), false},
		{wide, span(-2, -1), false},
		{wide, span(-2, 0), false},
		{wide, span(1023, 1024), true},
		{wide, span(1023, 1025), false},
		{wide, span(1024, 1025), false},
		{wide, span(-1, 1025), false},
		{list(math.MinInt, math.MaxInt), span(math.MinInt, math.MaxInt), false},
	} {
		if got := Covers(x.l, x.s); got != x.want {
			t.Error(i, got)
		}
	}
}

// P3.3
func TestCoversOfEdges(t *testing.T) {
	for _, l := range [][]api.Span{nil, list(0, 1024), list(-5, 2000), list(1, 1023), list(2, 1024, 0, 1), spansOfEdges()} {
		for _, s := range spansOfEdges() {
			if Covers(l, s) != covers(l, s) {
				t.Error(l, s)
			}
		}
	}
}

// P3.3
func TestCoversInManyLists(t *testing.T) {
	for i, l := range lists(400, 30) {
		for _, s := range Normal(l) {
			for _, near := range []api.Span{s, span(s.From-1, s.To), span(s.From, s.To+1), span(s.From+1, s.To), span(s.From, s.To-1), span(s.To, s.To+1)} {
				if Covers(l, near) != covers(l, near) {
					t.Error(l, near)
				}
			}
		}
		for _, s := range lists(401+i, 20)[0] {
			if Covers(l, s) != covers(l, s) {
				t.Error(l, s)
			}
		}
	}
}
