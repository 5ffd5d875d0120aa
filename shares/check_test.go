package shares_test

import (
	"math"
	"slices"
	"testing"

	"gridwright/api"
	"gridwright/shares"
)

// P6.1
func TestCheckOfOneShare(t *testing.T) {
	for i, x := range []struct {
		s    api.Share
		want api.Errno
	}{
		{share(0, 1, 1, 1), api.OK},
		{share(0, 1, 1, 1, 7), api.OK},
		{share(lastEpoch, 8, 8, 8, make([]byte, 64)...), api.OK},
		{share(lastEpoch-1, 1, 1, 8, make([]byte, 63)...), api.OK},
		{share(5, 2, 1, 2, 7), api.OK},
		{api.Share{Epoch: 5, Index: 2, Threshold: 1, Many: 2, Data: []byte{}}, api.OK},
		{api.Share{}, api.ErrShare},
		{share(0, 1, 1, 1, make([]byte, 65)...), api.ErrShare},
		{share(0, 1, 1, 1, make([]byte, 1<<20)...), api.ErrShare},
		{share(0, 0, 1, 2), api.ErrShare},
		{share(0, -1, 1, 2), api.ErrShare},
		{share(0, 3, 1, 2), api.ErrShare},
		{share(0, 9, 8, 8), api.ErrShare},
		{share(0, 257, 1, 2), api.ErrShare},
		{share(0, 1, 0, 2), api.ErrShare},
		{share(0, 1, -1, 2), api.ErrShare},
		{share(0, 1, 3, 2), api.ErrShare},
		{share(0, 1, 1, 0), api.ErrShare},
		{share(0, 1, 0, 0), api.ErrShare},
		{share(0, 0, 0, 0), api.ErrShare},
		{share(0, 1, -2, -1), api.ErrShare},
		{share(0, -1, -2, -1), api.ErrShare},
		{share(0, 1, 8, 9), api.ErrShare},
		{share(0, 9, 9, 9), api.ErrShare},
		{share(0, math.MaxInt, 1, 2), api.ErrShare},
		{share(0, math.MinInt, 1, 2), api.ErrShare},
		{share(0, 1, 1, math.MaxInt), api.ErrShare},
		{share(0, 1, math.MaxInt, math.MaxInt), api.ErrShare},
		{share(0, 1, math.MinInt, 2), api.ErrShare},
		{share(-1, 1, 1, 1, 7), api.ErrEpoch},
		{share(lastEpoch+1, 1, 1, 1, 7), api.ErrEpoch},
		{share(math.MaxInt, 1, 1, 1), api.ErrEpoch},
		{share(math.MinInt, 1, 1, 1), api.ErrEpoch},
		{share(-1, 0, 1, 1, 7), api.ErrShare},
		{share(lastEpoch+1, 1, 1, 9), api.ErrShare},
	} {
		if e := shares.Check([]api.Share{x.s}); e != x.want {
			t.Error(i, e, x.want)
		}
	}
}

// P6.1
func TestCheckOfNoShares(t *testing.T) {
	if shares.Check(nil) != api.ErrShare || shares.Check([]api.Share{}) != api.ErrShare {
		t.Error(shares.Check(nil), shares.Check([]api.Share{}))
	}
}

// P6.1
func TestCheckOfIndexes(t *testing.T) {
	for i, x := range []struct {
		indexes []int
		want    api.Errno
	}{
		{[]int{1, 2}, api.OK},
		{[]int{1, 5}, api.OK},
		{[]int{4, 5}, api.OK},
		{[]int{1, 2, 3, 4, 5}, api.OK},
		{[]int{2, 3, 5}, api.OK},
		{[]int{1, 1}, api.ErrShare},
		{[]int{2, 1}, api.ErrShare},
		{[]int{1, 3, 2}, api.ErrShare},
		{[]int{1, 3, 3}, api.ErrShare},
		{[]int{2, 3, 1}, api.ErrShare},
		{[]int{0, 1}, api.ErrShare},
		{[]int{-1, 1}, api.ErrShare},
		{[]int{1, 0}, api.ErrShare},
		{[]int{4, 6}, api.ErrShare},
		{[]int{6, 7}, api.ErrShare},
		{[]int{1, 2, 3, 4, 5, 6}, api.ErrShare},
		{[]int{1, 2, 3, 4, 5, 5}, api.ErrShare},
	} {
		for threshold := 1; threshold <= 5; threshold++ {
			if e := shares.Check(numbered(source(10), 2, threshold, 5, x.indexes...)); e != x.want {
				t.Error(i, threshold, e, x.want)
			}
		}
	}
}

// P6.1: each share is compared, wherever it stands.
func TestCheckOfAShareThatDiffers(t *testing.T) {
	for i, x := range []struct {
		change func(s *api.Share)
		want   api.Errno
	}{
		{func(s *api.Share) {}, api.OK},
		{func(s *api.Share) { s.Data = []byte{200, 0} }, api.OK},
		{func(s *api.Share) { s.Threshold-- }, api.ErrShare},
		{func(s *api.Share) { s.Threshold++ }, api.ErrShare},
		{func(s *api.Share) { s.Many-- }, api.ErrShare},
		{func(s *api.Share) { s.Many++ }, api.ErrShare},
		{func(s *api.Share) { s.Data = nil }, api.ErrShare},
		{func(s *api.Share) { s.Data = []byte{1} }, api.ErrShare},
		{func(s *api.Share) { s.Data = []byte{1, 2, 3} }, api.ErrShare},
		{func(s *api.Share) { s.Index = 0 }, api.ErrShare},
		{func(s *api.Share) { s.Index = 7 }, api.ErrShare},
		{func(s *api.Share) { s.Epoch-- }, api.ErrEpoch},
		{func(s *api.Share) { s.Epoch++ }, api.ErrEpoch},
		{func(s *api.Share) { s.Epoch = -1 }, api.ErrEpoch},
		{func(s *api.Share) { s.Epoch = lastEpoch + 1 }, api.ErrEpoch},
		{func(s *api.Share) { s.Epoch, s.Many = 4, 7 }, api.ErrShare},
	} {
		for at := range 3 {
			l := numbered(source(11), 2, 3, 6, 1, 4, 6)
			x.change(&l[at])
			if e := shares.Check(l); e != x.want {
				t.Error(i, at, e, x.want)
			}
		}
	}
}

// P6.1: what makes shares unlike comes first, wherever it stands.
func TestCheckOfSharesBeforeEpochs(t *testing.T) {
	for at := range 3 {
		for bad := range 3 {
			l := numbered(source(12), 1, 2, 4, 1, 2, 4)
			l[at].Epoch = -1
			l[bad].Data = nil
			if e := shares.Check(l); e != api.ErrShare {
				t.Error(at, bad, e)
			}
		}
	}
	if e := shares.Check([]api.Share{share(-1, 1, 2, 3, 5), share(-1, 2, 2, 3, 5)}); e != api.ErrEpoch {
		t.Error("equal epochs that are none:", e)
	}
}

// P6.1
func TestCheckOfManyLists(t *testing.T) {
	r := source(13)
	pick := func(l ...int) int { return l[r.IntN(len(l))] }
	counts := map[api.Errno]int{}
	for range 60000 {
		threshold, many, size := pick(0, 1, 2, 3, 8, 9), pick(2, 3, 7, 8, 8, 9), pick(0, 1, 64, 64, 65)
		epoch, index := pick(-1, 0, 4, lastEpoch, lastEpoch+1), pick(0, 1, 1, 2)
		var l []api.Share
		for range r.IntN(6) {
			s := share(epoch, index, threshold, many, make([]byte, size)...)
			if r.IntN(20) == 0 {
				fields := []*int{&s.Epoch, &s.Index, &s.Threshold, &s.Many}
				*fields[r.IntN(4)] += pick(-1, 1)
			}
			l = append(l, s)
			index += pick(1, 1, 1, 2, 2, 0)
		}
		want := checkOf(l)
		counts[want]++
		if e := shares.Check(l); e != want {
			t.Fatal(l, e, want)
		}
	}
	if counts[api.OK] < 2000 || counts[api.ErrShare] < 2000 || counts[api.ErrEpoch] < 2000 {
		t.Error("the lists are too much alike:", counts)
	}
}

// P6.1
func TestCheckOfLongLists(t *testing.T) {
	for _, l := range [][]api.Share{
		make([]api.Share, 1<<18),
		slices.Repeat([]api.Share{share(0, 1, 1, 8)}, 1<<18),
		slices.Repeat(numbered(source(14), 0, 1, 8, 1, 2, 3, 4, 5, 6, 7, 8), 1<<15),
	} {
		if e := shares.Check(l); e != api.ErrShare {
			t.Error(e)
		}
	}
}

// P6.1
func TestCheckLeavesItsArgument(t *testing.T) {
	l := numbered(source(15), 3, 2, 4, 1, 3)
	unchanged(t, l, nil, func() { shares.Check(l) })
}
