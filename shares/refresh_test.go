package shares_test

import (
	"testing"

	"gridwright/api"
	"gridwright/shares"
)

// P6.3
func TestRefresh(t *testing.T) {
	for i, x := range []struct {
		l     []api.Share
		coins []byte
		want  []api.Share
	}{
		{[]api.Share{share(4, 1, 1, 2, 7), share(4, 2, 1, 2, 7)}, nil, []api.Share{share(5, 1, 1, 2, 7), share(5, 2, 1, 2, 7)}},
		{[]api.Share{share(0, 1, 2, 2, 4), share(0, 2, 2, 2, 7)}, []byte{0}, []api.Share{share(1, 1, 2, 2, 4), share(1, 2, 2, 2, 7)}},
		{[]api.Share{share(0, 1, 2, 2, 4), share(0, 2, 2, 2, 7)}, []byte{1}, []api.Share{share(1, 1, 2, 2, 5), share(1, 2, 2, 2, 5)}},
		{[]api.Share{share(0, 1, 2, 2, 4), share(0, 2, 2, 2, 7)}, []byte{128}, []api.Share{share(1, 1, 2, 2, 132), share(1, 2, 2, 2, 28)}},
		{[]api.Share{share(lastEpoch-1, 1, 2, 2, 9, 0), share(lastEpoch-1, 2, 2, 2, 9, 0)}, []byte{0, 3}, []api.Share{share(lastEpoch, 1, 2, 2, 9, 3), share(lastEpoch, 2, 2, 2, 9, 6)}},
		{[]api.Share{share(0, 1, 3, 3, 1), share(0, 2, 3, 3, 1), share(0, 3, 3, 3, 1)}, []byte{0, 1}, []api.Share{share(1, 1, 3, 3, 0), share(1, 2, 3, 3, 5), share(1, 3, 3, 3, 4)}},
		{[]api.Share{share(0, 1, 1, 1)}, nil, []api.Share{share(1, 1, 1, 1)}},
		{[]api.Share{share(0, 1, 2, 2), share(0, 2, 2, 2)}, []byte{}, []api.Share{share(1, 1, 2, 2), share(1, 2, 2, 2)}},
	} {
		if l, e := shares.Refresh(x.l, x.coins); e != api.OK || !equal(l, x.want) {
			t.Error(i, l, e)
		}
	}
}

// refreshOf is the definition of Refresh without errors.
func refreshOf(l []api.Share, coins []byte) []api.Share {
	x := copied(l)
	zero := splitOf(make([]byte, len(l[0].Data)), 0, l[0].Threshold, l[0].Many, coins)
	for i := range x {
		x[i].Epoch++
		for place := range x[i].Data {
			x[i].Data[place] ^= zero[i].Data[place]
		}
	}
	return x
}

// P6.3: the chapter asks for any shares that are alike, also those that no secret has.
func TestRefreshOfAnyShares(t *testing.T) {
	r := source(50)
	thresholds(func(threshold, many int) {
		for _, n := range []int{0, 1, 2, 9, 64} {
			for _, epoch := range []int{0, 1, 77, lastEpoch - 1} {
				l := numbered(r, n, threshold, many, 1, 2, 3, 4, 5, 6, 7, 8)[:many]
				for i := range l {
					l[i].Epoch = epoch
				}
				coins := someBytes(r, n*(threshold-1))
				if x, e := shares.Refresh(l, coins); e != api.OK || !equal(x, refreshOf(l, coins)) {
					t.Error(l, coins, x, e)
				}
			}
		}
	})
}

// P6.3: with coins that are all 0, only the epoch changes.
func TestRefreshWithoutCoins(t *testing.T) {
	r := source(51)
	thresholds(func(threshold, many int) {
		l := numbered(r, 4, threshold, many, 1, 2, 3, 4, 5, 6, 7, 8)[:many]
		want := copied(l)
		for i := range want {
			want[i].Epoch++
		}
		if x, e := shares.Refresh(l, make([]byte, 4*(threshold-1))); e != api.OK || !equal(x, want) {
			t.Error(x, e)
		}
	})
}

// P6.3
func TestRefreshNeedsAllShares(t *testing.T) {
	r := source(52)
	thresholds(func(threshold, many int) {
		all := numbered(r, 2, threshold, many, 1, 2, 3, 4, 5, 6, 7, 8)[:many]
		for bits := range 1<<many - 1 {
			noRefresh(t, chosen(all, bits), make([]byte, 2*(threshold-1)), api.ErrShare)
		}
	})
}

// pair returns all shares of a threshold of 2, which have one byte.
func pair(epoch, other int) []api.Share {
	return []api.Share{share(epoch, 1, 2, 2, 4), share(other, 2, 2, 2, 7)}
}

// P6.3
func TestRefreshRefuses(t *testing.T) {
	for _, x := range []struct {
		l     []api.Share
		coins int
		want  api.Errno
	}{
		{nil, 0, api.ErrShare},
		{[]api.Share{}, 1, api.ErrShare},
		{[]api.Share{{}}, 0, api.ErrShare},
		{pair(0, 0)[:1], 1, api.ErrShare},
		{pair(0, 0)[1:], 1, api.ErrShare},
		{[]api.Share{pair(0, 0)[1], pair(0, 0)[0]}, 1, api.ErrShare},
		{append(pair(0, 0), share(0, 3, 2, 2, 7)), 1, api.ErrShare},
		{[]api.Share{share(0, 1, 1, 1, make([]byte, 65)...)}, 0, api.ErrShare},
		{pair(0, 1), 1, api.ErrEpoch},
		{pair(1, 0), 1, api.ErrEpoch},
		{pair(-1, -1), 1, api.ErrEpoch},
		{pair(lastEpoch, lastEpoch), 1, api.ErrEpoch},
		{pair(lastEpoch+1, lastEpoch+1), 1, api.ErrEpoch},
		{pair(0, 0), 0, api.ErrArg},
		{pair(0, 0), 2, api.ErrArg},
		{pair(lastEpoch-1, lastEpoch-1), 2, api.ErrArg},
		{pair(0, 0), 1 << 20, api.ErrArg},
		{[]api.Share{share(0, 1, 1, 1, 7)}, 1, api.ErrArg},
		{[]api.Share{share(0, 1, 1, 1)}, 1, api.ErrArg},
		{[]api.Share{share(0, 1, 2, 2), share(0, 2, 2, 2)}, 1, api.ErrArg},
		{numbered(source(53), 2, 3, 3, 1, 2, 3), 2, api.ErrArg},
		{numbered(source(53), 2, 3, 3, 1, 2, 3), 6, api.ErrArg},
		// Several errors: that of Check comes first, then the number of shares, the last epoch and the coins.
		{[]api.Share{share(0, 1, 2, 3, 4), share(1, 2, 2, 3, 7)}, 0, api.ErrEpoch},
		{pair(-1, -1)[:1], 1, api.ErrEpoch},
		{pair(0, 1), 0, api.ErrEpoch},
		{pair(lastEpoch, lastEpoch)[:1], 1, api.ErrShare},
		{pair(0, 0)[:1], 0, api.ErrShare},
		{pair(lastEpoch, lastEpoch), 0, api.ErrEpoch},
	} {
		noRefresh(t, x.l, make([]byte, x.coins), x.want)
	}
}

// P6.3
func TestRefreshLeavesItsArguments(t *testing.T) {
	r := source(54)
	l, coins := numbered(r, 3, 3, 4, 1, 2, 3, 4), someBytes(r, 12)
	unchanged(t, l, coins, func() {
		first, _ := shares.Refresh(l, coins[:6])
		want := copied(first)
		shares.Refresh(l, coins[6:])
		shares.Refresh(first, coins[6:])
		if !equal(first, want) {
			t.Error("the result changes")
		}
	})
}
