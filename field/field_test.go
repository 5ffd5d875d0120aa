package field_test

import (
	"bytes"
	"testing"

	"gridwright/api"
	"gridwright/field"
)

// P5.1
func TestMul(t *testing.T) {
	for i, x := range []struct{ a, b, c byte }{
		{2, 128, 27}, {83, 202, 1}, {0, 0, 0}, {0, 255, 0}, {255, 0, 0}, {1, 255, 255}, {255, 1, 255}, {2, 3, 6}, {3, 3, 5}, {16, 16, 27}, {128, 128, 154}, {255, 255, 19}, {87, 131, 193}, {87, 19, 254},
	} {
		if c := field.Mul(x.a, x.b); c != x.c {
			t.Error(i, c)
		}
	}
}

// P5.1
func TestMulOfAllBytes(t *testing.T) {
	for _, a := range everyByte() {
		for _, b := range everyByte() {
			if c := field.Mul(a, b); c != productOf(a, b) {
				t.Error(a, b, c)
			}
		}
	}
}

// P5.1
func TestInv(t *testing.T) {
	for i, x := range []struct {
		a, b byte
		e    api.Errno
	}{
		{0, 0, api.ErrArg}, {1, 1, api.OK}, {2, 141, api.OK}, {141, 2, api.OK}, {83, 202, api.OK}, {202, 83, api.OK}, {3, 246, api.OK}, {255, 28, api.OK},
	} {
		if b, e := field.Inv(x.a); b != x.b || e != x.e {
			t.Error(i, b, e)
		}
	}
}

// P5.1
func TestInvOfAllBytes(t *testing.T) {
	for _, a := range everyByte()[1:] {
		if b, e := field.Inv(a); e != api.OK || productOf(a, b) != 1 {
			t.Error(a, b, e)
		}
	}
}

// P5.2
func TestEval(t *testing.T) {
	for i, x := range []struct {
		l     []byte
		at, y byte
	}{
		{nil, 7, 0}, {nil, 0, 0}, {[]byte{}, 7, 0}, {[]byte{}, 255, 0},
		{[]byte{9}, 0, 9}, {[]byte{9}, 1, 9}, {[]byte{9}, 255, 9}, {[]byte{0}, 5, 0},
		{[]byte{9, 4, 3}, 0, 9}, {[]byte{0, 4, 3}, 0, 0}, {[]byte{9, 4, 3}, 1, 9 ^ 4 ^ 3},
		{[]byte{0, 1}, 200, 200}, {[]byte{0, 128}, 2, 27}, {[]byte{5, 128}, 2, 30}, {[]byte{0, 0, 1}, 16, 27}, {[]byte{1, 2, 3}, 2, 1 ^ 4 ^ 12},
		{[]byte{9, 4, 3, 0, 0}, 1, 9 ^ 4 ^ 3}, {[]byte{0, 0, 0, 0}, 77, 0},
	} {
		if y := field.Eval(x.l, x.at); y != x.y {
			t.Error(i, y)
		}
	}
}

// P5.2
func TestEvalOfManyPolynomials(t *testing.T) {
	r := source(20)
	for n := range 40 {
		l := someBytes(r, n)
		for _, at := range everyByte() {
			y := field.Eval(l, at)
			if y != valueOf(l, at) {
				t.Error(l, at, y)
			}
			if longer := append(bytes.Clone(l), 0, 0, 0); field.Eval(longer, at) != y {
				t.Error("zeros at the end:", l, at)
			}
		}
	}
}

// P5.2
func TestEvalOfEachPower(t *testing.T) {
	for n := range 520 {
		l := append(make([]byte, n), 1)
		for _, at := range []byte{0, 1, 2, 3, 16, 141, 255} {
			if y := field.Eval(l, at); y != powerOf(at, n) {
				t.Error(n, at, y)
			}
		}
	}
}

// P5.2: the powers of an element repeat after 255, so the coefficients of a long list may be added up before.
func TestEvalOfLongLists(t *testing.T) {
	l := someBytes(source(21), 1<<18+3)
	for _, at := range []byte{0, 1, 2, 3, 200, 255} {
		want := l[0]
		if at > 0 {
			short := make([]byte, 255)
			for i, c := range l {
				short[i%255] ^= c
			}
			want = valueOf(short, at)
		}
		if y := field.Eval(l, at); y != want {
			t.Error(at, y, want)
		}
	}
}

// P5.2
func TestEvalLeavesItsArgument(t *testing.T) {
	l := []byte{3, 1, 4, 1, 5}
	field.Eval(l, 9)
	if !bytes.Equal(l, []byte{3, 1, 4, 1, 5}) {
		t.Error(l)
	}
}
