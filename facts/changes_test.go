package facts_test

import (
	"math"
	"slices"
	"testing"

	"gridwright/api"
	"gridwright/facts"
)

func differ(k api.Key, days ...api.Span) api.Differ { return api.Differ{Key: k, Days: days} }

// P4.3
func TestChanged(t *testing.T) {
	k, other := key(1, 2, 3), key(1, 2, 4)
	l := amended(k)
	replaced := []api.Fact{fact(k, 7, 0, 1024, 10, 0), fact(k, 7, 5, 9, 20, 0), fact(k, 8, 7, 8, 30, 0), fact(other, -1, 0, 9, 30, 1), fact(k, 7, 7, 8, 40, 0)}
	wide := []api.Fact{fact(k, 8, -20, 2000, -7, -7), fact(k, -9, 2, 1022, 0, 0), fact(k, -3, -5, 2, 1, 0), fact(k, 9, 1023, math.MaxInt, 2, 0), fact(k, 5, 1024, 1030, 3, 0)}
	for i, x := range []struct {
		l             []api.Fact
		before, after int
		want          []api.Differ
	}{
		{nil, 0, 100, nil},
		{l, 15, 20, []api.Differ{differ(k, span(3, 4))}},
		{l, 20, 15, []api.Differ{differ(k, span(3, 4))}},
		{l, 19, 20, []api.Differ{differ(k, span(3, 4))}},
		{l, 20, 21, nil},
		{l, 10, 19, nil},
		{l, 9, 10, []api.Differ{differ(k, span(2, 6))}},
		{l, 9, 20, []api.Differ{differ(k, span(2, 3), span(4, 6))}},
		{l, 0, 9, nil},
		{l, 20, 20, nil},
		{replaced, 0, 10, []api.Differ{differ(k, span(0, 1024))}},
		{replaced, 10, 20, nil},
		{replaced, 20, 30, []api.Differ{differ(k, span(7, 8))}},
		{replaced, 20, 40, nil},
		{replaced, 40, 30, []api.Differ{differ(k, span(7, 8))}},
		{wide, -8, -7, []api.Differ{differ(k, span(0, 1024))}},
		{wide, -7, 0, []api.Differ{differ(k, span(2, 1022))}},
		{wide, 0, 1, []api.Differ{differ(k, span(0, 2))}},
		{wide, -7, 1, []api.Differ{differ(k, span(0, 1022))}},
		{wide, 1, 2, []api.Differ{differ(k, span(1023, 1024))}},
		{wide, 2, 3, nil},
		{wide, math.MinInt, math.MaxInt, []api.Differ{differ(k, span(1022, 1024))}},
		{[]api.Fact{fact(k, 3, 9, 4, 1, 0), fact(k, 3, 5, 5, 1, 0)}, 0, 1, nil},
		{[]api.Fact{fact(k, -1, 0, 9, 1, 0), fact(k, -2, 0, 9, 2, 0), fact(k, 0, 4, 5, 3, 0)}, 0, 2, nil},
		{[]api.Fact{fact(k, -1, 0, 9, 1, 0), fact(k, -2, 0, 9, 2, 0), fact(k, 0, 4, 5, 3, 0)}, 1, 3, []api.Differ{differ(k, span(4, 5))}},
		{[]api.Fact{fact(k, 2, 0, 9, 5, 0), fact(k, 1, 2, 20, 3, 0)}, 3, 5, []api.Differ{differ(k, span(0, 9))}},
		{[]api.Fact{fact(k, 2, 0, 9, 5, 0), fact(k, 3, 0, 9, 5, 0), fact(k, 3, 0, 9, 4, 0)}, 4, 5, nil},
	} {
		if c := facts.Changed(x.l, x.before, x.after); !sameDiffers(c, x.want) {
			t.Error(i, c)
		}
	}
}

// P4.3: the elements are in the order of the keys, in whatever order the facts are.
func TestChangedOrdersKeys(t *testing.T) {
	keys := []api.Key{
		key(math.MinInt, math.MaxInt, 5), key(-1, 9, 9),
		key(0, 0, 0), key(0, 0, 1), key(0, 0, 10), key(0, 1, 0), key(0, 4095, 1023),
		key(1, -1, 1), key(1, 0, 0), key(1, 2, 3), key(1, 3, 2), key(2, 1, 3),
		key(15, 0, 1023), key(15, 1, 0), key(math.MaxInt, 0, math.MinInt), key(math.MaxInt, 0, math.MaxInt),
	}
	var want []api.Differ
	for i, k := range keys {
		want = append(want, differ(k, span(i, i+2), span(i+5, 100)))
	}
	r := source(30)
	for range 50 {
		var l []api.Fact
		for _, i := range r.Perm(len(keys)) {
			l = append(l, fact(keys[i], 1, i, i+2, 1, 0), fact(keys[i], 2, i+5, 100, 1, 0), fact(keys[i], 3, 500, 501, 7, 0))
		}
		if c := facts.Changed(l, 0, 1); !sameDiffers(c, want) {
			t.Fatal(c)
		}
	}
}

// P4.3
func TestChangedInManyLists(t *testing.T) {
	r := source(40)
	for _, l := range allLists(40) {
		times := timesOf(l)
		for range 6 {
			before, after := oneOf(r, times), oneOf(r, times)
			c := facts.Changed(l, before, after)
			if !sameDiffers(c, changedOf(l, before, after)) {
				t.Error(l, before, after, c)
			}
			if !sameDiffers(c, facts.Changed(l, after, before)) {
				t.Error(l, before, after, "differs backward")
			}
		}
	}
}

// P4.3: spans at both ends of the calendar, and as many spans as possible.
func TestChangedOnEveryOtherDay(t *testing.T) {
	k := key(0, 0, 0)
	for parity := range 2 {
		var l []api.Fact
		var days []api.Span
		for day := parity; day < 1024; day += 2 {
			l = append(l, fact(k, 1, day, day+1, 1, day))
			days = append(days, span(day, day+1))
		}
		if c := facts.Changed(l, 0, 1); !sameDiffers(c, []api.Differ{differ(k, days...)}) {
			t.Error(parity, c)
		}
	}
}

// P4.3
func TestAlike(t *testing.T) {
	k, other := key(1, 2, 3), key(1, 2, 4)
	l := append(amended(k), fact(other, 1, 0, 1024, 30, 0))
	read := func(k api.Key, from, to int) []api.Read { return []api.Read{{Key: k, From: from, To: to}} }
	for i, x := range []struct {
		reads         []api.Read
		before, after int
		want          bool
	}{
		{nil, 1, 2, true},
		{nil, 15, 20, true},
		{read(k, 3, 4), 15, 20, false},
		{read(k, 3, 4), 20, 15, false},
		{read(k, 0, 3), 15, 20, true},
		{read(k, 0, 4), 15, 20, false},
		{read(k, 4, 1024), 15, 20, true},
		{read(k, 3, 1024), 15, 20, false},
		{read(k, 3, 3), 15, 20, true},
		{read(k, 4, 3), 15, 20, true},
		{read(k, 1000, 0), 15, 20, true},
		{read(k, math.MinInt, math.MaxInt), 15, 20, false},
		{read(k, math.MaxInt, math.MinInt), 15, 20, true},
		{read(k, -9, 0), 0, 30, true},
		{read(k, 1024, 2000), 0, 30, true},
		{read(other, 0, 1024), 15, 20, true},
		{read(other, 0, 1024), 15, 29, true},
		{read(other, 0, 1024), 15, 30, false},
		{read(other, 0, 1), 15, 30, false},
		{read(other, 1023, 1024), 15, 30, false},
		{read(other, -5, 0), 15, 30, true},
		{read(other, 1024, 1025), 15, 30, true},
		{read(key(9, 9, 9), 0, 1024), 0, 30, true},
		{append(read(k, 0, 3), read(k, 4, 9)...), 15, 20, true},
		{append(read(k, 0, 3), read(k, 2, 4)...), 15, 20, false},
		{append(read(k, 3, 4), read(k, 0, 3)...), 15, 20, false},
		{append(read(other, 0, 9), read(k, 3, 4)...), 15, 20, false},
		{append(read(key(9, 9, 9), 0, 9), read(other, 0, 9)...), 15, 20, true},
		{read(k, 0, 1024), 20, 30, true},
		{read(k, 2, 3), 9, 10, false},
		{read(k, 3, 4), 9, 20, true},
	} {
		if ok := facts.Alike(l, x.reads, x.before, x.after); ok != x.want {
			t.Error(i, ok)
		}
	}
}

// P4.3
func TestAlikeInManyLists(t *testing.T) {
	r := source(50)
	bounds := slices.Concat(wildNumbers(), []int{100, 101, 200, 300, 305, 700, 1000})
	alike := 0
	for _, l := range allLists(50) {
		times := timesOf(l)
		keys := keysAndAnother(l)
		for range 12 {
			before, after := oneOf(r, times), oneOf(r, times)
			var reads []api.Read
			for range r.IntN(4) {
				reads = append(reads, api.Read{Key: oneOf(r, keys), From: oneOf(r, bounds), To: oneOf(r, bounds)})
			}
			ok := facts.Alike(l, reads, before, after)
			if ok != alikeOf(l, reads, before, after) {
				t.Error(l, reads, before, after, ok)
			}
			if ok && len(reads) > 0 {
				alike++
			}
		}
	}
	if alike < 100 {
		t.Error("only", alike, "lists of reads are alike")
	}
}

// P4.3
func TestUpto(t *testing.T) {
	k := key(1, 2, 3)
	l := amended(k)
	mixed := []api.Fact{at(5, 1), {}, at(3, 9), at(5, 0), at(-2, 0), at(5, 1), at(6, 0), at(math.MinInt, 2), at(math.MaxInt, 2)}
	for i, x := range []struct {
		l     []api.Fact
		known int
		want  []api.Fact
	}{
		{nil, 5, nil},
		{l, 9, nil},
		{l, 10, l[:1]},
		{l, 19, l[:1]},
		{l, 20, l},
		{l, math.MaxInt, l},
		{l, math.MinInt, nil},
		{mixed, 5, []api.Fact{at(5, 1), {}, at(3, 9), at(5, 0), at(-2, 0), at(5, 1), at(math.MinInt, 2)}},
		{mixed, 4, []api.Fact{{}, at(3, 9), at(-2, 0), at(math.MinInt, 2)}},
		{mixed, -1, []api.Fact{at(-2, 0), at(math.MinInt, 2)}},
		{mixed, math.MinInt, []api.Fact{at(math.MinInt, 2)}},
		{mixed, math.MaxInt, mixed},
	} {
		if got := facts.Upto(x.l, x.known); !slices.Equal(got, x.want) {
			t.Error(i, got)
		}
	}
}

// P4.3
func TestUptoInManyLists(t *testing.T) {
	for _, l := range allLists(60) {
		for _, known := range timesOf(l) {
			var want []api.Fact
			for _, f := range l {
				if f.Known <= known {
					want = append(want, f)
				}
			}
			if got := facts.Upto(l, known); !slices.Equal(got, want) {
				t.Error(l, known, got)
			}
		}
	}
}
