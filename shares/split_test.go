package shares_test

import (
	"bytes"
	"math"
	"testing"

	"gridwright/api"
	"gridwright/shares"
)

// P6.1
func TestSplit(t *testing.T) {
	for i, x := range []struct {
		secret                 []byte
		epoch, threshold, many int
		coins                  []byte
		want                   []api.Share
	}{
		{[]byte{7}, 4, 1, 2, nil, []api.Share{share(4, 1, 1, 2, 7), share(4, 2, 1, 2, 7)}},
		{[]byte{7}, 4, 1, 2, []byte{}, []api.Share{share(4, 1, 1, 2, 7), share(4, 2, 1, 2, 7)}},
		{nil, 0, 1, 1, nil, []api.Share{share(0, 1, 1, 1)}},
		{nil, lastEpoch, 3, 3, nil, []api.Share{share(lastEpoch, 1, 3, 3), share(lastEpoch, 2, 3, 3), share(lastEpoch, 3, 3, 3)}},
		{[]byte{}, 1, 2, 2, []byte{}, []api.Share{share(1, 1, 2, 2), share(1, 2, 2, 2)}},
		{[]byte{5}, 0, 2, 3, []byte{1}, []api.Share{share(0, 1, 2, 3, 4), share(0, 2, 2, 3, 7), share(0, 3, 2, 3, 6)}},
		{[]byte{5, 0}, 9, 2, 3, []byte{1, 128}, []api.Share{share(9, 1, 2, 3, 4, 128), share(9, 2, 2, 3, 7, 27), share(9, 3, 2, 3, 6, 155)}},
		{[]byte{0}, 0, 3, 4, []byte{0, 1}, []api.Share{share(0, 1, 3, 4, 1), share(0, 2, 3, 4, 4), share(0, 3, 3, 4, 5), share(0, 4, 3, 4, 16)}},
		{[]byte{10, 20}, 0, 3, 3, []byte{1, 0, 0, 1}, []api.Share{share(0, 1, 3, 3, 11, 21), share(0, 2, 3, 3, 8, 16), share(0, 3, 3, 3, 9, 17)}},
	} {
		if l, e := shares.Split(x.secret, x.epoch, x.threshold, x.many, x.coins); e != api.OK || !equal(l, x.want) {
			t.Error(i, l, e)
		}
	}
}

// P6.1
func TestSplitOfManySecrets(t *testing.T) {
	r := source(20)
	thresholds(func(threshold, many int) {
		for _, n := range []int{0, 1, 2, 3, 17, 63, 64} {
			for _, epoch := range []int{0, 1, lastEpoch - 1, lastEpoch} {
				secret, coins := someBytes(r, n), someBytes(r, n*(threshold-1))
				l := split(t, secret, epoch, threshold, many, coins)
				if !equal(l, splitOf(secret, epoch, threshold, many, coins)) {
					t.Error(secret, epoch, threshold, many, coins, l)
				}
				if e := shares.Check(l); e != api.OK {
					t.Error(threshold, many, n, e)
				}
			}
		}
	})
}

// P6.1: with the threshold 1 each share has the bytes of the secret.
func TestSplitWithTheThresholdOne(t *testing.T) {
	secret := someBytes(source(21), 64)
	for many := 1; many <= mostParts; many++ {
		for _, s := range split(t, secret, 0, 1, many, nil) {
			if !bytes.Equal(s.Data, secret) {
				t.Error(many, s)
			}
		}
	}
}

// P6.1
func TestSplitRefuses(t *testing.T) {
	for i, x := range []struct {
		size, epoch, threshold, many, coins int
		want                                api.Errno
	}{
		{64, 0, 8, 8, 448, api.OK},
		{65, 0, 1, 1, 0, api.ErrArg},
		{65, 0, 2, 2, 65, api.ErrArg},
		{1 << 20, 0, 1, 1, 0, api.ErrArg},
		{2, 0, 0, 3, 0, api.ErrShare},
		{2, 0, -1, 3, 0, api.ErrShare},
		{2, 0, 4, 3, 6, api.ErrShare},
		{2, 0, 0, 0, 0, api.ErrShare},
		{2, 0, 1, 0, 0, api.ErrShare},
		{2, 0, 1, -1, 0, api.ErrShare},
		{2, 0, -2, -1, 0, api.ErrShare},
		{2, 0, 1, 9, 0, api.ErrShare},
		{2, 0, 9, 9, 16, api.ErrShare},
		{0, 0, math.MinInt, 3, 0, api.ErrShare},
		{0, 0, math.MaxInt, math.MaxInt, 0, api.ErrShare},
		{0, 0, 1, math.MaxInt, 0, api.ErrShare},
		{0, 0, math.MinInt, math.MinInt, 0, api.ErrShare},
		{2, -1, 2, 3, 2, api.ErrEpoch},
		{2, lastEpoch + 1, 2, 3, 2, api.ErrEpoch},
		{2, math.MaxInt, 2, 3, 2, api.ErrEpoch},
		{2, math.MinInt, 2, 3, 2, api.ErrEpoch},
		{2, 0, 2, 3, 1, api.ErrArg},
		{2, 0, 2, 3, 0, api.ErrArg},
		{2, 0, 2, 3, 3, api.ErrArg},
		{2, 0, 2, 3, 4, api.ErrArg},
		{2, 0, 3, 3, 6, api.ErrArg},
		{2, 0, 3, 3, 3, api.ErrArg},
		{2, 0, 1, 3, 1, api.ErrArg},
		{2, 0, 1, 3, 2, api.ErrArg},
		{0, 0, 3, 3, 1, api.ErrArg},
		{0, 0, 1, 1, 1, api.ErrArg},
		{64, 0, 8, 8, 447, api.ErrArg},
		{64, 0, 8, 8, 449, api.ErrArg},
		{64, 0, 8, 8, 1 << 20, api.ErrArg},
		// Several errors: the secret comes first, then the threshold, the epoch and the coins.
		{65, 0, 0, 3, 0, api.ErrArg},
		{65, -1, 9, 9, 1, api.ErrArg},
		{65, -1, 1, 1, 0, api.ErrArg},
		{2, -1, 0, 3, 0, api.ErrShare},
		{2, -1, 2, 9, 7, api.ErrShare},
		{2, 0, 4, 3, 7, api.ErrShare},
		{2, -1, 2, 3, 7, api.ErrEpoch},
		{2, lastEpoch + 1, 2, 3, 0, api.ErrEpoch},
	} {
		l, e := shares.Split(make([]byte, x.size), x.epoch, x.threshold, x.many, make([]byte, x.coins))
		if e != x.want || e != api.OK && len(l) > 0 {
			t.Error(i, l, e, x.want)
		}
	}
}

// P6.1
func TestSplitWithAllThresholds(t *testing.T) {
	for threshold := -2; threshold < 12; threshold++ {
		for many := -2; many < 12; many++ {
			want := api.ErrShare
			if 1 <= threshold && threshold <= many && many <= mostParts {
				want = api.OK
			}
			if l, e := shares.Split(nil, 0, threshold, many, nil); e != want || e != api.OK && len(l) > 0 {
				t.Error(threshold, many, l, e)
			}
			if want == api.OK {
				continue
			}
			if l, e := shares.Split(make([]byte, 2), 0, threshold, many, make([]byte, max(0, 2*(threshold-1)))); e != want || len(l) > 0 {
				t.Error(threshold, many, l, e)
			}
		}
	}
}

// P6.1
func TestSplitLeavesItsArguments(t *testing.T) {
	r := source(22)
	secret, coins := someBytes(r, 20), someBytes(r, 80)
	for _, n := range []int{5, 20} { // also where the slices have room behind their ends
		unchanged(t, nil, secret, func() {
			unchanged(t, nil, coins, func() { split(t, secret[:n], 0, 5, 8, coins[:4*n]) })
		})
	}
	l := split(t, secret[:5], 0, 5, 8, coins[:20])
	want := copied(l)
	split(t, secret[:5], 0, 5, 8, coins[20:40])
	if !equal(l, want) {
		t.Error("the result changes")
	}
}
