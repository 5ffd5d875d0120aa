package shares

import "gridwright/api"

// collected returns what get returns for the numbers from 0 to n - 1.
func collected[T any](n int, get func(i int) T) []T {
	l := make([]T, n)
	for i := range l {
		l[i] = get(i)
	}
	return l
}

// byColumn treats the bytes of shares that are alike place by place: a column is the byte of each share at a place.
func byColumn[T any](l []api.Share, treat func(place int, column []byte) T) []T {
	return collected(len(l[0].Data), func(place int) T {
		return treat(place, collected(len(l), func(i int) byte { return l[i].Data[place] }))
	})
}

// indexesOf returns the places at which polynomials have the bytes of shares.
func indexesOf(l []api.Share) []byte {
	return collected(len(l), func(i int) byte { return byte(l[i].Index) })
}

// otherPlaces returns n places that are the index of no share: first that of the secret, then those at which Explain wants 0.
func otherPlaces(n int) []byte {
	return collected(n, func(i int) byte {
		if i == 0 {
			return 0
		}
		return byte(api.MaxReferees + i)
	})
}

// polynomialsOf returns the polynomial of each byte of a secret; each has as many coins.
func polynomialsOf(secret, coins []byte, each int) [][]byte {
	return collected(len(secret), func(place int) []byte {
		from, to := place*each, (place+1)*each
		return append([]byte{secret[place]}, coins[from:to:to]...)
	})
}

// sum returns the sums of the bytes at the same places.
func sum(a, b []byte) []byte {
	return collected(len(a), func(place int) byte { return a[place] ^ b[place] })
}
