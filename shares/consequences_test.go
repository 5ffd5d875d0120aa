package shares_test

import (
	"bytes"
	"testing"

	"gridwright/api"
	"gridwright/shares"
)

// P6.4: enough shares lead back to the secret, also after they were refreshed, and fewer do not.
func TestSharesLeadBackToTheSecret(t *testing.T) {
	r := source(60)
	thresholds(func(threshold, many int) {
		n := r.IntN(7)
		secret := someBytes(r, n)
		l := split(t, secret, 0, threshold, many, someBytes(r, n*(threshold-1)))
		for range 4 {
			for bits := range 1 << many {
				if x := chosen(l, bits); len(x) < threshold {
					noJoin(t, x, api.ErrShare)
				} else {
					joins(t, x, secret)
				}
			}
			l = refreshed(t, r, l)
		}
	})
}

// P6.4
func TestLongestSecretLeadsBack(t *testing.T) {
	r := source(61)
	secret := someBytes(r, mostBytes)
	l := split(t, secret, lastEpoch-5, 8, 8, someBytes(r, mostBytes*7))
	for range 5 {
		l = refreshed(t, r, l)
		joins(t, l, secret)
	}
	noRefresh(t, l, someBytes(r, mostBytes*7), api.ErrEpoch)
}

// P6.4: fewer shares explain each of the 256 bytes, with different coins.
func TestFewSharesExplainEveryByte(t *testing.T) {
	r := source(62)
	thresholds(func(threshold, many int) {
		if threshold == 1 {
			return
		}
		l := split(t, someBytes(r, 1), 0, threshold, many, someBytes(r, threshold-1))
		for range 2 {
			order := r.Perm(many)[:1+r.IntN(threshold-1)]
			bits := 0
			for _, i := range order {
				bits |= 1 << i
			}
			found := map[string]bool{}
			for secret := range 256 {
				found[string(explains(t, chosen(l, bits), []byte{byte(secret)}))] = true
			}
			if len(found) != 256 {
				t.Error(threshold, many, bits, len(found))
			}
			l = refreshed(t, r, l)
		}
	})
}

// P6.4: whatever the secret is, each byte of a share has as many coins.
func TestOneShareSaysNothing(t *testing.T) {
	for secret := 0; secret < 256; secret += 51 {
		var found [3][256]int
		for coin := range 256 {
			for i, s := range split(t, []byte{byte(secret)}, 0, 2, 3, []byte{byte(coin)}) {
				found[i][s.Data[0]]++
			}
		}
		for i := range found {
			for b, n := range found[i] {
				if n != 1 {
					t.Error(secret, i, b, n)
				}
			}
		}
	}
}

// P6.4: one share less than the threshold leaves exactly one choice of coins for each secret.
func TestExplainFindsTheCoins(t *testing.T) {
	r := source(63)
	thresholds(func(threshold, many int) {
		if threshold == 1 {
			return
		}
		secret, coins := someBytes(r, 4), someBytes(r, 4*(threshold-1))
		l := split(t, secret, 0, threshold, many, coins)
		for i := range many - threshold + 2 {
			if x := explains(t, l[i:i+threshold-1], secret); !bytes.Equal(x, coins) {
				t.Error(threshold, many, i, x, coins)
			}
		}
	})
}

// P6.4: the first shares, and another secret, are shares of that secret.
func TestExplainedSharesLeadToTheOtherSecret(t *testing.T) {
	r := source(64)
	thresholds(func(threshold, many int) {
		if threshold == 1 {
			return
		}
		l := split(t, someBytes(r, 3), 0, threshold, many, someBytes(r, 3*(threshold-1)))
		other := someBytes(r, 3)
		coins := explains(t, l[:threshold-1], other)
		x := split(t, other, 0, threshold, many, coins)
		joins(t, append(copied(l[:threshold-1]), x[threshold-1:]...), other)
	})
}

// P6.4: each share may be the one of another epoch.
func TestSharesOfDifferentEpochs(t *testing.T) {
	r := source(65)
	thresholds(func(threshold, many int) {
		l := split(t, someBytes(r, 2), 7, threshold, many, someBytes(r, 2*(threshold-1)))
		x := refreshed(t, r, l)
		for bits := 1; bits < 1<<many-1; bits++ {
			mixed := copied(l)
			for i := range mixed {
				if bits>>i&1 == 1 {
					mixed[i] = x[i]
				}
			}
			if e := shares.Check(mixed); e != api.ErrEpoch {
				t.Error(mixed, e)
			}
			noJoin(t, mixed, api.ErrEpoch)
			noCoins(t, mixed, make([]byte, 2), api.ErrEpoch)
			noRefresh(t, mixed, make([]byte, 2*(threshold-1)), api.ErrEpoch)
		}
	})
}

// P6.4: refreshed shares are those of the sums of the coins.
func TestRefreshAddsCoins(t *testing.T) {
	r := source(66)
	thresholds(func(threshold, many int) {
		secret, coins, others := someBytes(r, 3), someBytes(r, 3*(threshold-1)), someBytes(r, 3*(threshold-1))
		x, e := shares.Refresh(split(t, secret, 4, threshold, many, coins), others)
		for i := range coins {
			coins[i] ^= others[i]
		}
		if e != api.OK || !equal(x, split(t, secret, 5, threshold, many, coins)) {
			t.Error(threshold, many, x, e)
		}
	})
}
