package facts_test

import (
	"slices"
	"testing"

	"gridwright/api"
	"gridwright/facts"
)

// later returns facts like those of another list, which become known after a time.
func later(l []api.Fact, time int) (x []api.Fact) {
	for i, f := range l {
		f.Known, f.No = time+1+i/3, i%3
		x = append(x, f)
	}
	return x
}

// P4.4: the past of knowledge remains.
func TestLaterFactsDoNotChangeThePast(t *testing.T) {
	lists, amendments := validLists(70, 60, 15), validLists(71, 60, 15)
	for i, l := range lists {
		now := 100
		more := append(slices.Clone(l), later(amendments[i], now)...)
		if facts.Check(more) != api.OK {
			t.Fatal(more)
		}
		for _, k := range fewKeys() {
			for _, known := range []int{1, 3, 10, now} {
				if !slices.Equal(facts.Points(more, k, 0, 1024, known), facts.Points(l, k, 0, 1024, known)) {
					t.Error(l, k, known)
				}
			}
		}
		if !slices.Equal(facts.Upto(more, now), l) || !sameDiffers(facts.Changed(more, 5, now), facts.Changed(l, 5, now)) {
			t.Error(l)
		}
	}
}

// P4.4
func TestWhatIsKnownIsWhatIsKnownUptoATime(t *testing.T) {
	r := source(80)
	for _, l := range slices.Concat(validLists(80, 60, 15), wildLists(80, 60, 15)) {
		times := timesOf(l)
		for range 4 {
			i := r.IntN(len(times))
			known, after := times[i], times[i+r.IntN(len(times)-i)]
			past := facts.Upto(l, known)
			for _, k := range keysAndAnother(l) {
				if !slices.Equal(facts.Points(l, k, 0, 1024, known), facts.Points(past, k, 0, 1024, after)) {
					t.Error(l, k, known, after)
				}
				day := r.IntN(1024)
				value, ok := facts.At(l, k, day, known)
				if same, there := facts.At(past, k, day, after); value != same || ok != there {
					t.Error(l, k, day, known, after)
				}
			}
			if len(facts.Changed(past, known, after)) > 0 {
				t.Error(l, known, after)
			}
		}
	}
}

// P4.4
func TestPointsAgreesWithAt(t *testing.T) {
	r := source(90)
	for _, l := range slices.Concat(validLists(90, 25, 15), wildLists(90, 25, 15)) {
		known := oneOf(r, timesOf(l))
		for _, k := range keysAndAnother(l) {
			var want []api.Point
			for day := range 1024 {
				if value, ok := facts.At(l, k, day, known); ok {
					want = append(want, api.Point{Day: day, Value: value})
				}
			}
			if !slices.Equal(facts.Points(l, k, 0, 1024, known), want) {
				t.Error(l, k, known)
			}
		}
	}
}

// touched reports whether a day of a read is in an element about its key.
func touched(c []api.Differ, r api.Read) bool {
	for _, d := range c {
		for _, s := range d.Days {
			for day := s.From; day < s.To; day++ {
				if d.Key == r.Key && r.From <= day && day < r.To {
					return true
				}
			}
		}
	}
	return false
}

// P4.4
func TestReadsAreAlikeUnlessTheyAreTouched(t *testing.T) {
	r := source(100)
	for _, l := range slices.Concat(validLists(100, 60, 15), wildLists(100, 60, 15)) {
		times := timesOf(l)
		before, after := oneOf(r, times), oneOf(r, times)
		c := facts.Changed(l, before, after)
		for _, k := range keysAndAnother(l) {
			for range 10 {
				read := api.Read{Key: k, From: r.IntN(1034) - 5, To: r.IntN(1034) - 5}
				if facts.Alike(l, []api.Read{read}, before, after) == touched(c, read) {
					t.Error(l, read, before, after)
				}
			}
		}
		for _, d := range c {
			for _, s := range d.Days {
				for i, read := range []api.Read{{Key: d.Key, From: s.From, To: s.From + 1}, {Key: d.Key, From: s.To - 1, To: s.To}, {Key: d.Key, From: s.From - 1, To: s.From}, {Key: d.Key, From: s.To, To: s.To + 1}} {
					if facts.Alike(l, []api.Read{read}, before, after) != (i >= 2) {
						t.Error(l, read, before, after)
					}
				}
			}
		}
	}
}

// P4.1 to P4.3: equal calls return equal results, and leave their arguments, and earlier results, as they are.
func TestArgumentsAndResultsStayAsTheyAre(t *testing.T) {
	for _, l := range slices.Concat(validLists(110, 20, 20), wildLists(110, 20, 20)) {
		l = append(l, fact(key(0, 0, 0), 3, 2, 9, 50, 0), fact(key(0, 0, 0), 4, 3, 5, 2, 0))[: len(l)+1 : len(l)+2]
		reads := []api.Read{{Key: key(0, 0, 0), From: 0, To: 9}, {Key: key(9, 9, 9)}, {Key: key(0, 0, 1), From: 9}}
		keptList, keptReads := slices.Clone(l[:cap(l)]), slices.Clone(reads)
		past, c := facts.Upto(l, 49), facts.Changed(l, 2, 60)
		keptPast := slices.Clone(past)
		for range 3 {
			facts.Check(l)
			facts.Add(l, fact(key(1, 1, 1), 1, 1, 2, 1<<24, 1))
			facts.Add(past, fact(key(1, 1, 1), 1, 1, 2, 1<<24, 1))
			facts.At(l, key(0, 0, 0), 4, 60)
			facts.Points(l, key(0, 0, 0), 0, 1024, 60)
			facts.Alike(l, reads, 2, 60)
			facts.Upto(past, 3)
			facts.Changed(past, 1, 30)
			if !sameDiffers(facts.Changed(l, 2, 60), c) {
				t.Error(l, c)
			}
		}
		if !slices.Equal(l[:cap(l)], keptList) || !slices.Equal(reads, keptReads) || !slices.Equal(past, keptPast) {
			t.Error(l, reads, past)
		}
	}
}

// P4.2, P4.3: long lists of long facts, many keys and many reads.
func TestLongLists(t *testing.T) {
	const many = 100000
	one := key(0, 0, 0)
	var same, keys []api.Fact
	var reads []api.Read
	for i := range many {
		same = append(same, fact(one, i%5, 0, 1023-i%2, 1+i, 0))
		k := key(i%16, i/16%4096, i/65536)
		keys = append(keys, fact(k, 1, 0, 1024, 1+i%2, i/2))
		reads = append(reads, api.Read{Key: k, To: 1024})
	}
	backward := slices.Clone(same)
	slices.Reverse(backward)
	for _, l := range [][]api.Fact{same, backward} {
		if p := facts.Points(l, one, 1020, 1024, many); !slices.Equal(p, points(1020, 4, 1021, 4, 1022, 3)) {
			t.Error(p)
		}
		if c := facts.Changed(l, 0, many); !sameDiffers(c, []api.Differ{differ(one, span(0, 1023))}) {
			t.Error(c)
		}
	}
	if c := facts.Changed(keys, 1, 2); len(c) != many/2 || len(c[0].Days) != 1 || c[0].Days[0] != span(0, 1024) {
		t.Error(len(c))
	}
	if facts.Alike(keys, reads, 1, 2) || !facts.Alike(keys, reads, 2, 3) {
		t.Error("reads of many keys")
	}
}
