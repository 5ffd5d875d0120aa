package facts_test

import (
	"math"
	"slices"
	"testing"

	"gridwright/api"
	"gridwright/facts"
)

// P4.2
func TestAt(t *testing.T) {
	k, other := key(1, 2, 3), key(1, 2, 4)
	l := amended(k)
	late := []api.Fact{fact(k, 2, 0, 10, 20, 1), fact(k, 1, 0, 10, 20, 0), fact(k, 3, 0, 10, 10, 9)}
	equal := []api.Fact{fact(k, 5, 0, 10, 1, 1), fact(k, 6, 0, 5, 1, 1)}
	wild := []api.Fact{fact(k, 8, -20, 2000, -7, -7), fact(k, -9, 50, 60, 0, math.MinInt), fact(k, 9, 60, 50, 5, 5)}
	for i, x := range []struct {
		l          []api.Fact
		k          api.Key
		day, known int
		value      int
		ok         bool
	}{
		{nil, k, 0, 0, 0, false},
		{l, k, 3, 15, 7, true},
		{l, k, 3, 19, 7, true},
		{l, k, 3, 20, 0, false},
		{l, k, 3, 9, 0, false},
		{l, k, 3, 10, 7, true},
		{l, k, 2, 20, 7, true},
		{l, k, 4, 20, 7, true},
		{l, k, 1, 20, 0, false},
		{l, k, 5, 20, 7, true},
		{l, k, 6, 20, 0, false},
		{l, other, 4, 20, 0, false},
		{late, k, 4, 20, 2, true},
		{late, k, 4, 19, 3, true},
		{late, k, 4, math.MaxInt, 2, true},
		{equal, k, 4, 1, 6, true},
		{equal, k, 5, 1, 5, true},
		{wild, k, -20, -7, 8, true},
		{wild, k, -21, -7, 0, false},
		{wild, k, 1999, 9, 8, true},
		{wild, k, 2000, 9, 0, false},
		{wild, k, 55, -1, 8, true},
		{wild, k, 55, 0, 0, false},
		{wild, k, 55, 9, 0, false},
		{wild, k, 60, 9, 8, true},
		{wild, k, 0, -8, 0, false},
		{[]api.Fact{fact(k, 0, 3, 4, 1, 0)}, k, 3, 1, 0, true},
		{[]api.Fact{fact(k, 4, math.MinInt, math.MaxInt, math.MinInt, math.MinInt)}, k, math.MinInt, math.MinInt, 4, true},
		{[]api.Fact{fact(k, 4, math.MinInt, math.MaxInt, 0, 0)}, k, math.MaxInt, 0, 0, false},
		{[]api.Fact{fact(k, math.MaxInt, 0, 1, 0, 0)}, k, 0, 0, math.MaxInt, true},
		{[]api.Fact{{}}, api.Key{}, 0, 0, 0, false},
	} {
		if value, ok := facts.At(x.l, x.k, x.day, x.known); value != x.value || ok != x.ok {
			t.Error(i, value, ok)
		}
	}
}

// P4.2: each of the three numbers of a key matters.
func TestAtOfOtherKeys(t *testing.T) {
	for i, k := range fewKeys() {
		for j, other := range fewKeys() {
			l := []api.Fact{fact(k, 40+i, 0, 9, 1, 0)}
			if value, ok := facts.At(l, other, 4, 1); ok != (i == j) || ok && value != 40+i {
				t.Error(k, other, value, ok)
			}
			if p := facts.Points(l, other, 4, 5, 1); len(p) == 1 != (i == j) {
				t.Error(k, other, p)
			}
		}
	}
}

// keysAndAnother returns the keys of a list and one that it does not have.
func keysAndAnother(l []api.Fact) []api.Key {
	return append(keysOf(l), key(2, 4, 8))
}

// P4.2
func TestAtInManyLists(t *testing.T) {
	r := source(10)
	for _, l := range allLists(10) {
		candidates := slices.Concat(wildNumbers(), []int{-3, 700})
		for _, f := range l {
			candidates = append(candidates, f.Valid.From, f.Valid.From-1, f.Valid.To, f.Valid.To-1)
		}
		for _, k := range keysAndAnother(l) {
			for range 150 {
				day, known := oneOf(r, candidates), oneOf(r, timesOf(l))
				value, ok := facts.At(l, k, day, known)
				if want, there := valueOf(l, k, day, known); value != want || ok != there {
					t.Error(l, k, day, known, value, ok)
				}
			}
		}
	}
}

func points(days ...int) (p []api.Point) {
	for i := 0; i < len(days); i += 2 {
		p = append(p, api.Point{Day: days[i], Value: days[i+1]})
	}
	return p
}

// P4.2
func TestPoints(t *testing.T) {
	k, other := key(1, 2, 3), key(0, 2, 3)
	l := amended(k)
	wide := []api.Fact{fact(k, 8, -20, 2000, -7, -7), fact(k, -9, 2, 1022, 0, 0), fact(other, 1, 0, 1024, 9, 9)}
	equal := []api.Fact{fact(k, 5, 0, 3, 1, 1), fact(k, 6, 1, 2, 1, 1), fact(k, 7, 0, 2, 1, 0)}
	for i, x := range []struct {
		l               []api.Fact
		k               api.Key
		from, to, known int
		want            []api.Point
	}{
		{nil, k, 0, 1024, 0, nil},
		{l, k, 0, 1024, 9, nil},
		{l, k, 0, 1024, 10, points(2, 7, 3, 7, 4, 7, 5, 7)},
		{l, k, 0, 1024, 20, points(2, 7, 4, 7, 5, 7)},
		{l, k, 3, 5, 15, points(3, 7, 4, 7)},
		{l, k, 3, 5, 20, points(4, 7)},
		{l, k, 5, 5, 20, nil},
		{l, k, 5, 3, 20, nil},
		{l, k, 5, 6, 20, points(5, 7)},
		{l, k, math.MinInt, 3, 20, points(2, 7)},
		{l, k, 5, math.MaxInt, 20, points(5, 7)},
		{l, k, math.MaxInt, math.MinInt, 20, nil},
		{l, other, 0, 1024, 20, nil},
		{wide, k, -50, 3000, 0, points(0, 8, 1, 8, 1022, 8, 1023, 8)},
		{wide, k, 1023, 1026, -1, points(1023, 8)},
		{wide, k, -3, 1, 0, points(0, 8)},
		{wide, k, 1024, 2000, 9, nil},
		{wide, k, -20, 0, 9, nil},
		{equal, k, 0, 1024, 1, points(0, 5, 1, 6, 2, 5)},
		{[]api.Fact{{}}, api.Key{}, 0, 1024, 0, nil},
		{[]api.Fact{fact(k, 0, 3, 4, 1, 0)}, k, 0, 9, 1, points(3, 0)},
	} {
		if p := facts.Points(x.l, x.k, x.from, x.to, x.known); !slices.Equal(p, x.want) {
			t.Error(i, p)
		}
	}
}

// P4.2
func TestPointsInManyLists(t *testing.T) {
	r := source(20)
	bounds := append(wildNumbers(), 300, 305, 700, 1000)
	for _, l := range allLists(20) {
		for _, k := range keysAndAnother(l) {
			for range 8 {
				from, to, known := oneOf(r, bounds), oneOf(r, bounds), oneOf(r, timesOf(l))
				if p := facts.Points(l, k, from, to, known); !slices.Equal(p, pointsOf(l, k, from, to, known)) {
					t.Error(l, k, from, to, known, p)
				}
			}
		}
	}
}

// P4.2: days with and without a value alternate.
func TestPointsOfSingleDays(t *testing.T) {
	k := key(1, 1, 1)
	l := []api.Fact{fact(k, 1, 0, 1024, 1, 0)}
	var want []api.Point
	for day := 1023; day >= 0; day-- {
		l = append(l, fact(k, day%3-1, day, day+1, 2, day))
		if day%3 > 0 {
			want = append(want, api.Point{Day: day, Value: day%3 - 1})
		}
	}
	slices.Reverse(want)
	if p := facts.Points(l, k, 0, 1024, 2); !slices.Equal(p, want) {
		t.Error(p)
	}
}
