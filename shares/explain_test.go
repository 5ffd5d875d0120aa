package shares_test

import (
	"bytes"
	"testing"

	"gridwright/api"
	"gridwright/field"
	"gridwright/shares"
)

// P6.3
func TestExplain(t *testing.T) {
	for i, x := range []struct {
		l             []api.Share
		secret, coins []byte
	}{
		{[]api.Share{share(0, 1, 2, 3, 4)}, []byte{5}, []byte{1}},
		{[]api.Share{share(0, 1, 2, 3, 4)}, []byte{4}, []byte{0}},
		{[]api.Share{share(0, 1, 2, 3, 4)}, []byte{0}, []byte{4}},
		{[]api.Share{share(0, 2, 2, 3, 27)}, []byte{0}, []byte{128}},
		{[]api.Share{share(0, 2, 2, 3, 7, 27)}, []byte{5, 0}, []byte{1, 128}},
		{[]api.Share{share(0, 2, 2, 3)}, nil, nil},
		{[]api.Share{share(7, 1, 8, 8)}, []byte{}, []byte{}},
		{[]api.Share{share(0, 1, 3, 3, 0)}, []byte{0}, []byte{0, 0}},
		{[]api.Share{share(0, 1, 3, 4, 1), share(0, 2, 3, 4, 4)}, []byte{0}, []byte{0, 1}},
		{[]api.Share{share(0, 1, 3, 4, 1, 6), share(0, 2, 3, 4, 4, 6)}, []byte{0, 6}, []byte{0, 1, 0, 0}},
		// The polynomial with the zeros 1 and 9, and 9 at 0, is x^2 + 8 * x + 9.
		{[]api.Share{share(0, 1, 3, 4, 0)}, []byte{9}, []byte{8, 1}},
	} {
		if coins, e := shares.Explain(x.l, x.secret); e != api.OK || !bytes.Equal(coins, x.coins) {
			t.Error(i, coins, e)
		}
	}
}

// P6.3: the points of the chapter are enough to make the coins unique.
func TestExplainOfAnyShares(t *testing.T) {
	r := source(40)
	thresholds(func(threshold, many int) {
		all := numbered(r, 3, threshold, many, 1, 2, 3, 4, 5, 6, 7, 8)[:many]
		for bits := 1; bits < 1<<many; bits++ {
			l := chosen(all, bits)
			secret := someBytes(r, 3)
			if len(l) >= threshold {
				noCoins(t, l, secret, api.ErrShare)
				continue
			}
			coins := explains(t, l, secret)
			for place := range secret {
				p := polynomial(secret, coins, threshold, place)
				for at := 9; at <= 8+threshold-1-len(l); at++ {
					if y := field.Eval(p, byte(at)); y != 0 {
						t.Error(l, secret, coins, at, y)
					}
				}
			}
		}
	})
}

// P6.3
func TestExplainOfEachLength(t *testing.T) {
	r := source(41)
	for n := range mostBytes + 1 {
		l := numbered(r, n, 4, 6, 2, 6)
		explains(t, l, someBytes(r, n))
		for _, other := range []int{0, n - 1, n + 1, 2 * n, 65, 1 << 12} {
			if other >= 0 && other != n {
				noCoins(t, l, make([]byte, other), api.ErrArg)
			}
		}
	}
}

// P6.3
func TestExplainRefuses(t *testing.T) {
	for _, x := range []struct {
		l      []api.Share
		secret []byte
		want   api.Errno
	}{
		{nil, nil, api.ErrShare},
		{[]api.Share{}, []byte{1}, api.ErrShare},
		{[]api.Share{{}}, nil, api.ErrShare},
		{[]api.Share{share(0, 1, 2, 3, 4), share(0, 2, 2, 3, 7)}, []byte{5}, api.ErrShare},
		{[]api.Share{share(0, 1, 2, 3, 4), share(0, 2, 2, 3, 7), share(0, 3, 2, 3, 6)}, []byte{5}, api.ErrShare},
		{[]api.Share{share(0, 1, 1, 3, 4)}, []byte{4}, api.ErrShare},
		{[]api.Share{share(0, 1, 1, 1)}, nil, api.ErrShare},
		{[]api.Share{share(0, 2, 3, 3, 4), share(0, 1, 3, 3, 4)}, []byte{4}, api.ErrShare},
		{[]api.Share{share(0, 1, 3, 9, 4)}, []byte{4}, api.ErrShare},
		{[]api.Share{share(0, 1, 2, 3, make([]byte, 65)...)}, make([]byte, 65), api.ErrShare},
		{[]api.Share{share(-1, 1, 2, 3, 4)}, []byte{5}, api.ErrEpoch},
		{[]api.Share{share(lastEpoch+1, 1, 2, 3, 4)}, []byte{5}, api.ErrEpoch},
		{[]api.Share{share(0, 1, 3, 3, 4), share(1, 2, 3, 3, 7)}, []byte{5}, api.ErrEpoch},
		{[]api.Share{share(0, 1, 2, 3, 4)}, nil, api.ErrArg},
		{[]api.Share{share(0, 1, 2, 3, 4)}, []byte{5, 5}, api.ErrArg},
		{[]api.Share{share(0, 1, 2, 3)}, []byte{5}, api.ErrArg},
		// Several errors: that of Check comes first, then the number of shares, then the secret.
		{[]api.Share{share(0, 1, 2, 3, 4), share(1, 2, 2, 3, 7)}, []byte{5}, api.ErrEpoch},
		{[]api.Share{share(-1, 1, 1, 3, 4)}, nil, api.ErrEpoch},
		{[]api.Share{share(-1, 1, 2, 3, 4)}, nil, api.ErrEpoch},
		{[]api.Share{share(0, 1, 1, 3, 4)}, nil, api.ErrShare},
	} {
		noCoins(t, x.l, x.secret, x.want)
	}
}

// P6.3
func TestExplainLeavesItsArguments(t *testing.T) {
	r := source(42)
	l, secret := numbered(r, 5, 5, 8, 1, 4, 6), someBytes(r, 9)
	unchanged(t, l, secret, func() {
		first, _ := shares.Explain(l[:2], secret[:5])
		want := bytes.Clone(first)
		shares.Explain(l[1:], secret[4:])
		if !bytes.Equal(first, want) {
			t.Error("the result changes")
		}
	})
}
