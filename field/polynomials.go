package field

import (
	"iter"
	"slices"
)

// remainders has, for each polynomial with the powers 0 to 3, the remainder of its product with t^8: t^8 leaves t^4 + t^3 + t + 1, which is 27.
var remainders = [16]byte{0, 27, 54, 45, 108, 119, 90, 65, 216, 195, 238, 245, 180, 175, 130, 153}

// reduced returns the remainder of the product of two bytes, whose greatest power is 14: first without the powers from 12 on, then without those from 8 on.
func reduced(product int) byte {
	product = product&0xfff ^ int(remainders[product>>12])<<4
	return byte(product) ^ remainders[product>>8]
}

// powers yields the powers of an element from the power 0 on, with their numbers.
func powers(a byte, n int) iter.Seq2[int, byte] {
	return func(yield func(int, byte) bool) {
		power := byte(1)
		for i := range n {
			if !yield(i, power) {
				return
			}
			power = Mul(power, a)
		}
	}
}

// arePoints reports whether there are as many values as places, and the places are all different.
func arePoints(xs, ys []byte) bool {
	seen := map[byte]bool{}
	again := func(x byte) bool {
		if seen[x] {
			return true
		}
		seen[x] = true
		return false
	}
	return len(xs) == len(ys) && !slices.ContainsFunc(xs, again)
}

// addMultiple adds a multiple of a polynomial to l, which has at least as many coefficients.
func addMultiple(l, polynomial []byte, factor byte) {
	for i, c := range polynomial {
		l[i] ^= Mul(c, factor)
	}
}

// timesFactor returns the product of a polynomial and one that is 0 at the byte x only: x and the power 1 (plus and minus are the same).
func timesFactor(polynomial []byte, x byte) []byte {
	product := append([]byte{0}, polynomial...)
	addMultiple(product, polynomial, x)
	return product
}
