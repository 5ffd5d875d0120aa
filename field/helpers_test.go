package field_test

import (
	"bytes"
	"math/rand/v2"
	"slices"
	"testing"

	"gridwright/api"
	"gridwright/field"
)

// productOf is the definition of the product: it multiplies the polynomials power by power, and divides by t^8 + t^4 + t^3 + t + 1.
func productOf(a, b byte) byte {
	var odd [15]bool
	for i := range 8 {
		for k := range 8 {
			if a>>i&1 == 1 && b>>k&1 == 1 {
				odd[i+k] = !odd[i+k]
			}
		}
	}
	for i := 14; i >= 8; i-- {
		if odd[i] {
			for _, k := range []int{8, 4, 3, 1, 0} {
				odd[i-8+k] = !odd[i-8+k]
			}
		}
	}
	c := 0
	for i, is := range odd {
		if is {
			c += 1 << i
		}
	}
	return byte(c)
}

// powerOf is the definition of a power.
func powerOf(a byte, n int) byte {
	c := byte(1)
	for range n {
		c = productOf(c, a)
	}
	return c
}

// valueOf is the definition of the value of a polynomial.
func valueOf(l []byte, at byte) (y byte) {
	for i, c := range l {
		y ^= productOf(c, powerOf(at, i))
	}
	return y
}

func inverseOf(t *testing.T, a byte) byte {
	b, e := field.Inv(a)
	if e != api.OK {
		t.Fatal("no inverse:", a, e)
	}
	return b
}

// lagrange is the value of the polynomial through points by the formula of Lagrange: each value is multiplied by a product that is 1 at its own place and 0 at all others.
func lagrange(t *testing.T, xs, ys []byte, at byte) (y byte) {
	for i, x := range xs {
		part := ys[i]
		for k, other := range xs {
			if k != i {
				part = productOf(part, productOf(at^other, inverseOf(t, x^other)))
			}
		}
		y ^= part
	}
	return y
}

func source(seed uint64) *rand.Rand { return rand.New(rand.NewPCG(seed, 5)) }

func someBytes(r *rand.Rand, n int) []byte {
	l := make([]byte, n)
	for i := range l {
		l[i] = byte(r.IntN(256))
	}
	return l
}

// places returns n different bytes in any order.
func places(r *rand.Rand, n int) []byte {
	l := everyByte()
	r.Shuffle(len(l), func(i, k int) { l[i], l[k] = l[k], l[i] })
	return l[:n]
}

func everyByte() []byte {
	l := make([]byte, 256)
	for i := range l {
		l[i] = byte(i)
	}
	return l
}

func valuesOf(l, xs []byte) []byte {
	ys := make([]byte, len(xs))
	for i, x := range xs {
		ys[i] = field.Eval(l, x)
	}
	return ys
}

// padded returns a polynomial with n coefficients.
func padded(l []byte, n int) []byte {
	return append(bytes.Clone(l), make([]byte, n-len(l))...)
}

func plus(a, b []byte) []byte {
	n := max(len(a), len(b))
	a, b = padded(a, n), padded(b, n)
	for i := range a {
		a[i] ^= b[i]
	}
	return a
}

// through fails unless Through and Coefficients agree that a polynomial goes through points.
func through(t *testing.T, xs, ys, want []byte) {
	t.Helper()
	l, e := field.Coefficients(xs, ys)
	if e != api.OK || !slices.Equal(l, want) {
		t.Error("Coefficients:", xs, ys, l, e)
	}
	for _, at := range everyByte() {
		if y, e := field.Through(xs, ys, at); e != api.OK || y != field.Eval(want, at) {
			t.Error("Through:", xs, ys, at, y, e)
		}
	}
}

// noPoints fails unless Through and Coefficients refuse lists, without results.
func noPoints(t *testing.T, xs, ys []byte) {
	t.Helper()
	if l, e := field.Coefficients(xs, ys); e != api.ErrArg || len(l) > 0 {
		t.Error("Coefficients:", len(xs), len(ys), l, e)
	}
	for _, at := range []byte{0, 1, 2, 7, 255} {
		if y, e := field.Through(xs, ys, at); e != api.ErrArg || y != 0 {
			t.Error("Through:", len(xs), len(ys), at, y, e)
		}
	}
}
