package spans

import (
	"slices"
	"testing"

	"gridwright/api"
)

// P3.4
func TestNormalListsStayAsTheyAre(t *testing.T) {
	for i, l := range slices.Concat(lists(800, 20), subsets(), [][]api.Span{nil, spansOfEdges()}) {
		other := lists(801+i, 9)[0]
		for k, normal := range [][]api.Span{Normal(l), Union(l, other), Meet(l, other), Minus(l, other)} {
			if Check(normal) != api.OK || !slices.Equal(Normal(normal), normal) {
				t.Error(l, other, k, normal)
			}
		}
	}
}

// checkLaws tries the laws of union and meet, once as they are and once with their roles exchanged.
func checkLaws(t *testing.T, a, b, c []api.Span) {
	t.Helper()
	type function = func(a, b []api.Span) []api.Span
	for name, x := range map[string][2]function{"union": {Union, Meet}, "meet": {Meet, Union}} {
		f, g := x[0], x[1]
		for law, sides := range map[string][2][]api.Span{
			"commutative":  {f(a, b), f(b, a)},
			"associative":  {f(a, f(b, c)), f(f(a, b), c)},
			"distributive": {f(a, g(b, c)), g(f(a, b), f(a, c))},
			"idempotent":   {f(a, a), Normal(a)},
			"absorbing":    {f(a, g(a, b)), Normal(a)},
		} {
			if !slices.Equal(sides[0], sides[1]) {
				t.Error(name, law, a, b, c)
			}
		}
	}
}

// P3.4
func TestLawsOfUnionAndMeet(t *testing.T) {
	first, second, third := lists(500, 8), lists(501, 8), lists(502, 8)
	for i, a := range first {
		checkLaws(t, a, second[i], third[i])
	}
	checkLaws(t, nil, nil, nil)
	checkLaws(t, spansOfEdges(), nil, first[0])
}

// P3.4
func TestMinusAndMeetPartTheFirstSet(t *testing.T) {
	first, second := lists(800, 10), lists(801, 10)
	for i, a := range first {
		b := second[i]
		rest, both := Minus(a, b), Meet(a, b)
		if !slices.Equal(Union(rest, both), Normal(a)) || len(Meet(rest, both)) > 0 {
			t.Error(a, b, rest, both)
		}
	}
}

// P3.4
func TestASetCoversASpanIfNothingIsLeftOfIt(t *testing.T) {
	for i, l := range lists(300, 30) {
		candidates := append(Normal(l), list(0, 1024, 0, 1, 1023, 1024, 0, 0, 1024, 1024, 30, 20)...)
		for _, s := range append(candidates, lists(301+i, 30)[0]...) {
			if s.From < 0 || s.From > 1024 || s.To < 0 || s.To > 1024 {
				continue
			}
			if Covers(l, s) != (len(Minus([]api.Span{s}, l)) == 0) {
				t.Error(l, s)
			}
		}
	}
}

// P3.4
func TestOperationsDependOnDaysOnly(t *testing.T) {
	second := lists(201, 12)
	for i, a := range lists(200, 12) {
		b := second[i]
		for _, x := range operations() {
			if !slices.Equal(x.combine(a, b), x.combine(Normal(a), Normal(b))) {
				t.Error(x.name, a, b)
			}
		}
		for _, s := range b {
			if Has(a, s.From) != Has(Normal(a), s.From) || Covers(a, s) != Covers(Normal(a), s) {
				t.Error(a, s)
			}
		}
	}
}

// P3.1, P3.2, P3.3: the functions leave their arguments, and earlier results, as they are.
func TestArgumentsAndResultsStayAsTheyAre(t *testing.T) {
	a, b := list(30, 40, 10, 20, 15, 25, 9, 9, -5, 2000)[:4:5], list(18, 33, 5, 1, 900, 1200)[:2]
	keptA, keptB := slices.Clone(a[:cap(a)]), slices.Clone(b[:cap(b)])
	union := Union(a, b)
	keptUnion := slices.Clone(union)
	for range 2 {
		Check(a)
		Normal(a)
		Normal(union)
		Union(union, b)
		Meet(a, union)
		Minus(union, a)
		Has(a, 12)
		Covers(a, span(12, 22))
	}
	if !slices.Equal(a[:cap(a)], keptA) || !slices.Equal(b[:cap(b)], keptB) || !slices.Equal(union, keptUnion) {
		t.Error(a, b, union)
	}
}
