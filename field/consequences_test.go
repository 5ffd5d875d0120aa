package field_test

import (
	"slices"
	"testing"

	"gridwright/api"
	"gridwright/field"
)

// P5.4
func TestBytesAreAField(t *testing.T) {
	for _, a := range everyByte() {
		if field.Mul(a, 1) != a || field.Mul(1, a) != a || field.Mul(a, 0) != 0 || field.Mul(0, a) != 0 {
			t.Error("zero and one:", a)
		}
		if a > 0 && (field.Mul(a, inverseOf(t, a)) != 1 || inverseOf(t, inverseOf(t, a)) != a) {
			t.Error("inverse:", a)
		}
		for _, b := range everyByte() {
			ab := field.Mul(a, b)
			if ab != field.Mul(b, a) {
				t.Error("commutative:", a, b)
			}
			if (ab == 0) != (a == 0 || b == 0) {
				t.Error("product 0:", a, b)
			}
			for c := byte(0); c < 255; c += 3 {
				if field.Mul(ab, c) != field.Mul(a, field.Mul(b, c)) {
					t.Error("associative:", a, b, c)
				}
				if field.Mul(a, b^c) != ab^field.Mul(a, c) {
					t.Error("distributive:", a, b, c)
				}
			}
		}
	}
}

// P5.4
func TestInversesAreDifferent(t *testing.T) {
	found := map[byte]bool{}
	for _, a := range everyByte()[1:] {
		found[inverseOf(t, a)] = true
	}
	if len(found) != 255 || found[0] {
		t.Error(len(found))
	}
}

// P5.4
func TestValuesDetermineThePolynomial(t *testing.T) {
	r := source(40)
	for n := range 20 {
		for coefficients := range n + 1 {
			l := someBytes(r, coefficients)
			xs := places(r, n)
			through(t, xs, valuesOf(l, xs), padded(l, n))
		}
	}
	for _, n := range []int{64, 255, 256} {
		l, xs := someBytes(r, n), places(r, n)
		if x, e := field.Coefficients(xs, valuesOf(l, xs)); e != api.OK || !slices.Equal(x, l) {
			t.Error(n, e)
		}
	}
}

// P5.4: the polynomials with two coefficients have all pairs of values, and each pair once.
func TestTwoValuesDetermineTwoCoefficients(t *testing.T) {
	for _, xs := range [][]byte{{0, 1}, {200, 3}} {
		found := map[[2]byte]bool{}
		for _, a := range everyByte() {
			for _, b := range everyByte() {
				ys := valuesOf([]byte{a, b}, xs)
				found[[2]byte{ys[0], ys[1]}] = true
				if l, e := field.Coefficients(xs, ys); e != api.OK || !slices.Equal(l, []byte{a, b}) {
					t.Error(xs, ys, l, e)
				}
			}
		}
		if len(found) != 1<<16 {
			t.Error(xs, len(found))
		}
	}
}

// P5.4
func TestOrderOfPointsDoesNotMatter(t *testing.T) {
	r := source(41)
	for n := range 12 {
		xs, ys := places(r, n), someBytes(r, n)
		l, _ := field.Coefficients(xs, ys)
		r.Shuffle(n, func(i, k int) { xs[i], xs[k], ys[i], ys[k] = xs[k], xs[i], ys[k], ys[i] })
		through(t, xs, ys, l)
	}
}

// P5.4
func TestAnyValueAtAFurtherPlace(t *testing.T) {
	r := source(42)
	for n := 1; n < 9; n++ {
		xs, ys := places(r, n), someBytes(r, n)
		found := map[string]bool{}
		for _, value := range everyByte() {
			ys[n-1] = value
			l, e := field.Coefficients(xs, ys)
			if e != api.OK || len(l) != n || !slices.Equal(valuesOf(l, xs), ys) {
				t.Error(xs, ys, l, e)
			}
			found[string(l)] = true
		}
		if len(found) != 256 {
			t.Error(n, len(found))
		}
	}
}

// P5.4
func TestValueOfASum(t *testing.T) {
	r := source(43)
	for range 200 {
		a, b := someBytes(r, r.IntN(20)), someBytes(r, r.IntN(20))
		for _, at := range everyByte() {
			if field.Eval(plus(a, b), at) != field.Eval(a, at)^field.Eval(b, at) {
				t.Error(a, b, at)
			}
		}
	}
}

// P5.4
func TestPolynomialThroughSums(t *testing.T) {
	r := source(44)
	for n := range 12 {
		xs, ys, zs := places(r, n), someBytes(r, n), someBytes(r, n)
		a, _ := field.Coefficients(xs, ys)
		b, _ := field.Coefficients(xs, zs)
		through(t, xs, plus(ys, zs), plus(a, b))
	}
}
