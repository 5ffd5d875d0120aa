package shares_test

import (
	"bytes"
	"math/rand/v2"
	"reflect"
	"slices"
	"testing"

	"gridwright/api"
	"gridwright/field"
	"gridwright/shares"
)

const (
	lastEpoch = 1048576
	mostBytes = 64
	mostParts = 8
)

func source(seed uint64) *rand.Rand { return rand.New(rand.NewPCG(seed, 6)) }

func someBytes(r *rand.Rand, n int) []byte {
	l := make([]byte, n)
	for i := range l {
		l[i] = byte(r.IntN(256))
	}
	return l
}

func share(epoch, index, threshold, many int, data ...byte) api.Share {
	return api.Share{Epoch: epoch, Index: index, Threshold: threshold, Many: many, Data: data}
}

// numbered returns shares of one epoch with the given indexes, and some bytes that lie on no polynomial.
func numbered(r *rand.Rand, size, threshold, many int, indexes ...int) (l []api.Share) {
	for _, i := range indexes {
		l = append(l, share(3, i, threshold, many, someBytes(r, size)...))
	}
	return l
}

// copied returns shares that have no memory in common with l.
func copied(l []api.Share) []api.Share {
	x := slices.Clone(l)
	for i := range x {
		x[i].Data = bytes.Clone(x[i].Data)
	}
	return x
}

// equal takes nil for an empty slice.
func equal(l, x []api.Share) bool {
	return slices.EqualFunc(l, x, func(a, b api.Share) bool {
		return a.Epoch == b.Epoch && a.Index == b.Index && a.Threshold == b.Threshold && a.Many == b.Many && bytes.Equal(a.Data, b.Data)
	})
}

// split returns the shares of a secret, which must be possible.
func split(t *testing.T, secret []byte, epoch, threshold, many int, coins []byte) []api.Share {
	t.Helper()
	l, e := shares.Split(secret, epoch, threshold, many, coins)
	if e != api.OK {
		t.Fatal("Split:", len(secret), epoch, threshold, many, len(coins), e)
	}
	return l
}

// refreshed returns the shares of the next epoch, with any coins.
func refreshed(t *testing.T, r *rand.Rand, l []api.Share) []api.Share {
	t.Helper()
	x, e := shares.Refresh(l, someBytes(r, len(l[0].Data)*(l[0].Threshold-1)))
	if e != api.OK {
		t.Fatal("Refresh:", e)
	}
	return x
}

// thresholds calls do with each possible threshold and number of shares.
func thresholds(do func(threshold, many int)) {
	for many := 1; many <= mostParts; many++ {
		for threshold := 1; threshold <= many; threshold++ {
			do(threshold, many)
		}
	}
}

// chosen returns the shares whose bits are set in a number.
func chosen(l []api.Share, bits int) (x []api.Share) {
	for i, s := range l {
		if bits>>i&1 == 1 {
			x = append(x, s)
		}
	}
	return x
}

// polynomial is the definition of the polynomial of a byte of a secret.
func polynomial(secret, coins []byte, threshold, place int) []byte {
	l := []byte{secret[place]}
	for i := range threshold - 1 {
		l = append(l, coins[place*(threshold-1)+i])
	}
	return l
}

// splitOf is the definition of Split without errors.
func splitOf(secret []byte, epoch, threshold, many int, coins []byte) (l []api.Share) {
	for index := 1; index <= many; index++ {
		s := share(epoch, index, threshold, many)
		for place := range secret {
			s.Data = append(s.Data, field.Eval(polynomial(secret, coins, threshold, place), byte(index)))
		}
		l = append(l, s)
	}
	return l
}

// isAlike is the definition of shares that are alike.
func isAlike(l []api.Share) bool {
	if len(l) == 0 {
		return false
	}
	for i, s := range l {
		first := l[0]
		if s.Threshold != first.Threshold || s.Many != first.Many || len(s.Data) != len(first.Data) {
			return false
		}
		if s.Threshold < 1 || s.Threshold > s.Many || s.Many > mostParts || len(s.Data) > mostBytes {
			return false
		}
		if s.Index < 1 || s.Index > s.Many || i > 0 && s.Index <= l[i-1].Index {
			return false
		}
	}
	return true
}

// checkOf is the definition of Check.
func checkOf(l []api.Share) api.Errno {
	if !isAlike(l) {
		return api.ErrShare
	}
	for _, s := range l {
		if s.Epoch != l[0].Epoch || s.Epoch < 0 || s.Epoch > lastEpoch {
			return api.ErrEpoch
		}
	}
	return api.OK
}

// joins fails unless shares lead to a secret.
func joins(t *testing.T, l []api.Share, secret []byte) {
	t.Helper()
	if x, e := shares.Join(l); e != api.OK || !bytes.Equal(x, secret) {
		t.Error("Join:", l, x, secret, e)
	}
}

// noJoin fails unless Join refuses shares, without a result.
func noJoin(t *testing.T, l []api.Share, want api.Errno) {
	t.Helper()
	if x, e := shares.Join(l); e != want || len(x) > 0 {
		t.Error("Join:", l, x, e, want)
	}
}

// explains fails unless Explain returns coins with which Split of the secret has the shares; it returns these coins.
func explains(t *testing.T, l []api.Share, secret []byte) []byte {
	t.Helper()
	first := l[0]
	coins, e := shares.Explain(l, secret)
	if e != api.OK || len(coins) != len(secret)*(first.Threshold-1) {
		t.Fatal("Explain:", l, secret, coins, e)
	}
	all := split(t, secret, first.Epoch, first.Threshold, first.Many, coins)
	for _, s := range l {
		if !bytes.Equal(all[s.Index-1].Data, s.Data) {
			t.Error("Explain:", l, secret, coins, all)
		}
	}
	return coins
}

// noCoins fails unless Explain refuses its arguments, without a result.
func noCoins(t *testing.T, l []api.Share, secret []byte, want api.Errno) {
	t.Helper()
	if coins, e := shares.Explain(l, secret); e != want || len(coins) > 0 {
		t.Error("Explain:", l, secret, coins, e, want)
	}
}

// noRefresh fails unless Refresh refuses its arguments, without a result.
func noRefresh(t *testing.T, l []api.Share, coins []byte, want api.Errno) {
	t.Helper()
	if x, e := shares.Refresh(l, coins); e != want || len(x) > 0 {
		t.Error("Refresh:", l, coins, x, e, want)
	}
}

// unchanged fails if do modifies shares or bytes.
func unchanged(t *testing.T, l []api.Share, b []byte, do func()) {
	t.Helper()
	before, bytesBefore := copied(l), bytes.Clone(b)
	do()
	if !reflect.DeepEqual(l, before) || !bytes.Equal(b, bytesBefore) {
		t.Error("the arguments change:", l, b)
	}
}
