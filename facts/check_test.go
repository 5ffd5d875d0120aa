package facts_test

import (
	"math"
	"slices"
	"testing"

	"gridwright/api"
	"gridwright/facts"
)

// A change is a fact that differs from a valid one in one number, and whether it is still valid.
type change struct {
	name  string
	f     api.Fact
	valid bool
}

// changes puts numbers around its bounds, and extreme ones, into each field of a fact.
func changes() (l []change) {
	for _, x := range []struct {
		name            string
		field           func(f *api.Fact) *int
		least, greatest int
	}{
		{"kind", func(f *api.Fact) *int { return &f.Key.Kind }, 0, 15},
		{"subject", func(f *api.Fact) *int { return &f.Key.Subject }, 0, 4095},
		{"object", func(f *api.Fact) *int { return &f.Key.Object }, 0, 1023},
		{"value", func(f *api.Fact) *int { return &f.Value }, -1, 1048576},
		{"from", func(f *api.Fact) *int { return &f.Valid.From }, 0, 599},
		{"to", func(f *api.Fact) *int { return &f.Valid.To }, 401, 1024},
		{"known", func(f *api.Fact) *int { return &f.Known }, 1, 16777216},
		{"no", func(f *api.Fact) *int { return &f.No }, 0, 65535},
	} {
		for _, n := range []int{x.least, x.least + 1, x.greatest - 1, x.greatest, x.least - 1, x.greatest + 1, math.MinInt, math.MaxInt} {
			f := fact(key(7, 70, 700), 7, 400, 600, 1000, 50)
			*x.field(&f) = n
			l = append(l, change{x.name, f, x.least <= n && n <= x.greatest})
		}
	}
	return append(l,
		change{"the greatest numbers", fact(key(15, 4095, 1023), 1<<20, 1023, 1024, 1<<24, 65535), true},
		change{"the least numbers", fact(key(0, 0, 0), -1, 0, 1, 1, 0), true},
		change{"all days", fact(key(0, 0, 0), 0, 0, 1024, 1, 0), true},
		change{"zero", api.Fact{}, false},
		change{"no days", fact(key(0, 0, 0), 0, 5, 5, 1, 0), false},
		change{"backward days", fact(key(0, 0, 0), 0, 6, 5, 1, 0), false},
		change{"days after the calendar", fact(key(0, 0, 0), 0, 1024, 1025, 1, 0), false})
}

// P4.1
func TestCheckOfOneFact(t *testing.T) {
	for _, x := range changes() {
		want := api.OK
		if !x.valid {
			want = api.ErrFact
		}
		if e := facts.Check([]api.Fact{x.f}); e != want {
			t.Error(x.name, x.f, e)
		}
	}
}

// P4.1: each fact of a list is examined.
func TestCheckOfAFactInAList(t *testing.T) {
	first, last := fact(key(0, 0, 0), 1, 0, 1, 1, 0), fact(key(1, 1, 1), 1, 0, 1, 1<<24, 65535)
	for _, x := range changes() {
		if x.valid {
			continue
		}
		for i := range 3 {
			l := slices.Insert([]api.Fact{first, last}, i, x.f)
			if e := facts.Check(l); e != api.ErrFact {
				t.Error(x.name, i, e)
			}
		}
	}
}

// at returns a valid fact with a time and a number.
func at(known, no int) api.Fact { return fact(key(1, 2, 3), 4, 5, 6, known, no) }

// P4.1
func TestCheckOfOrder(t *testing.T) {
	other := fact(key(9, 9, 9), 0, 500, 501, 5, 3)
	bad := fact(key(1, 2, 3), -2, 5, 6, 7, 0)
	for i, x := range []struct {
		l    []api.Fact
		want api.Errno
	}{
		{nil, api.OK},
		{[]api.Fact{}, api.OK},
		{amended(key(1, 2, 3)), api.OK},
		{[]api.Fact{at(5, 3), at(5, 4)}, api.OK},
		{[]api.Fact{at(5, 3), at(6, 0)}, api.OK},
		{[]api.Fact{at(5, 3), at(6, 3)}, api.OK},
		{[]api.Fact{at(5, 65535), at(6, 0), at(6, 65535), at(1<<24, 0)}, api.OK},
		{[]api.Fact{at(5, 2), other, at(5, 4)}, api.OK},
		{[]api.Fact{at(5, 3), at(5, 3)}, api.ErrOrder},
		{[]api.Fact{at(5, 3), other}, api.ErrOrder},
		{[]api.Fact{at(5, 3), at(5, 2)}, api.ErrOrder},
		{[]api.Fact{at(5, 3), at(4, 3)}, api.ErrOrder},
		{[]api.Fact{at(5, 3), at(4, 4)}, api.ErrOrder},
		{[]api.Fact{at(1, 0), at(2, 0), at(2, 1), at(2, 1)}, api.ErrOrder},
		{[]api.Fact{at(2, 0), at(1, 0), at(3, 0)}, api.ErrOrder},
		{[]api.Fact{at(1, 0), at(3, 0), at(2, 0), at(4, 0)}, api.ErrOrder},
		{[]api.Fact{at(2, 0), at(1, 0), bad}, api.ErrFact},
		{[]api.Fact{bad, at(7, 1), at(7, 0)}, api.ErrFact},
		{[]api.Fact{bad, bad}, api.ErrFact},
	} {
		if e := facts.Check(x.l); e != x.want {
			t.Error(i, e)
		}
	}
}

// P4.1
func TestCheckOfManyLists(t *testing.T) {
	for _, l := range validLists(1, 200, 20) {
		if e := facts.Check(l); e != api.OK {
			t.Error(l, e)
		}
		for i := 1; i < len(l); i++ {
			swapped := slices.Clone(l)
			swapped[i-1], swapped[i] = l[i], l[i-1]
			if e := facts.Check(swapped); e != api.ErrOrder {
				t.Error(swapped, i, e)
			}
			if e := facts.Check(slices.Insert(slices.Clone(l), i, l[i])); e != api.ErrOrder {
				t.Error(l, i, e)
			}
		}
	}
}

// P4.1
func TestAdd(t *testing.T) {
	bad := fact(key(1, 2, 3), -2, 5, 6, 1, 0)
	for i, x := range []struct {
		l    []api.Fact
		f    api.Fact
		want api.Errno
	}{
		{nil, at(1, 0), api.OK},
		{[]api.Fact{}, at(1, 0), api.OK},
		{[]api.Fact{at(5, 3)}, at(5, 4), api.OK},
		{[]api.Fact{at(5, 3)}, at(6, 0), api.OK},
		{[]api.Fact{at(5, 3), at(5, 4)}, at(9, 9), api.OK},
		{amended(key(1, 2, 3)), fact(key(0, 0, 0), -1, 0, 1024, 20, 1), api.OK},
		{[]api.Fact{at(5, 3)}, at(5, 3), api.ErrOrder},
		{[]api.Fact{at(5, 3)}, at(5, 2), api.ErrOrder},
		{[]api.Fact{at(5, 3)}, at(4, 9), api.ErrOrder},
		{[]api.Fact{at(1, 0), at(5, 3)}, at(2, 0), api.ErrOrder},
		{nil, bad, api.ErrFact},
		{nil, api.Fact{}, api.ErrFact},
		{[]api.Fact{at(5, 3)}, bad, api.ErrFact},
		{[]api.Fact{bad}, at(5, 3), api.ErrFact},
		{[]api.Fact{bad}, at(1, 0), api.ErrFact},
		{[]api.Fact{at(2, 0), at(1, 0)}, at(3, 0), api.ErrOrder},
		{[]api.Fact{at(2, 0), at(1, 0)}, bad, api.ErrOrder},
		{[]api.Fact{at(2, 0), at(1, 0), bad}, at(3, 0), api.ErrFact},
	} {
		want := append(slices.Clone(x.l), x.f)
		if x.want != api.OK {
			want = nil
		}
		if l, e := facts.Add(x.l, x.f); e != x.want || !slices.Equal(l, want) {
			t.Error(i, l, e)
		}
	}
}

// P4.1
func TestAddOfInvalidFacts(t *testing.T) {
	for _, x := range changes() {
		for _, l := range [][]api.Fact{nil, {at(1, 0)}} {
			want, e := []api.Fact(nil), api.ErrFact
			if x.valid {
				want, e = append(slices.Clone(l), x.f), api.OK
			}
			if x.valid && len(l) > 0 && x.f.Known == 1 && x.f.No == 0 {
				want, e = nil, api.ErrOrder
			}
			if got, f := facts.Add(l, x.f); f != e || !slices.Equal(got, want) {
				t.Error(x.name, len(l), got, f)
			}
		}
	}
}

// P4.1: a list may be continued in two ways, and each of them keeps what it is.
func TestAddToOneListTwice(t *testing.T) {
	l := make([]api.Fact, 0, 16)
	l = append(l, at(1, 0), at(2, 0))
	for range 5 {
		one, e := facts.Add(l, at(3, 0))
		other, f := facts.Add(l, at(3, 1))
		if e != api.OK || f != api.OK || one[2] != at(3, 0) || other[2] != at(3, 1) || l[:3][2] != (api.Fact{}) {
			t.Fatal(one, other, l[:3])
		}
		both, _ := facts.Add(one, at(3, 5))
		last, _ := facts.Add(one, at(4, 0))
		if both[3] != at(3, 5) || last[3] != at(4, 0) || !slices.Equal(both[:3], one) {
			t.Fatal(both, last)
		}
	}
}

// P4.1: a list that is built fact by fact is the list itself.
func TestAddBuildsValidLists(t *testing.T) {
	for _, l := range validLists(2, 100, 25) {
		var x []api.Fact
		for _, f := range l {
			var e api.Errno
			if x, e = facts.Add(x, f); e != api.OK {
				t.Fatal(l, f, e)
			}
		}
		if !slices.Equal(x, l) {
			t.Error(x, l)
		}
	}
}
