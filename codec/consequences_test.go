package codec

import (
	"bytes"
	"math"
	"testing"

	"gridwright/api"
)

// someValues returns values of all shapes up to a depth, which differ from each other.
func someValues(depth int) []api.Value {
	l := []api.Value{
		number(0), number(1), number(-1), number(2), number(63), number(64), number(-64), number(-65), number(1 << 40), number(math.MaxInt), number(math.MinInt),
		text(""), text("\x00"), text("\x01"), text("\x01\x00"), text("\x03\x00"), text("ab"), text("é"), list(),
	}
	if depth == 0 {
		return l
	}
	smaller := someValues(depth - 1)
	for i, v := range smaller {
		l = append(l, list(v), list(v, smaller[len(smaller)-1-i]), list(number(0), v, v))
	}
	return l
}

// shortBytes calls look with each sequence of at most n of some telling bytes.
func shortBytes(n int, b []byte, look func(b []byte)) {
	look(b)
	if n == 0 {
		return
	}
	for _, next := range []byte{0, 1, 2, 3, 4, 127, 128, 129, 255} {
		shortBytes(n-1, append(bytes.Clone(b), next), look)
	}
}

// P1.4
func TestDecodeUndoesEncode(t *testing.T) {
	for i, x := range someValues(3) {
		b, e := Encode(x)
		if e != api.OK {
			t.Fatal(i, e)
		}
		if v, e := Decode(b); e != api.OK || !Same(v, x) {
			t.Error(i, v, e)
		}
		if n, e := Size(x); e != api.OK || n != len(b) {
			t.Error(i, n, e)
		}
	}
}

// P1.4
func TestNumbersNextToPowersOfTwo(t *testing.T) {
	for shift := range 64 {
		for d := -2; d <= 2; d++ {
			for _, n := range []int{1<<shift + d, -(1 << shift) + d} {
				b, e := Encode(number(n))
				v, f := Decode(b)
				if e != api.OK || f != api.OK || !Same(v, number(n)) {
					t.Error(n, b, e, v, f)
				}
			}
		}
	}
}

// P1.4
func TestEncodeUndoesDecode(t *testing.T) {
	decoded := 0
	shortBytes(6, nil, func(b []byte) {
		v, e := Decode(b)
		if e != api.OK {
			if e != api.ErrCode || !Same(v, api.Value{}) {
				t.Error(b, v, e)
			}
			return
		}
		decoded++
		if again, e := Encode(v); e != api.OK || !bytes.Equal(again, b) {
			t.Error(b, v, again, e)
		}
	})
	if decoded < 1000 {
		t.Error("too few sequences are encodings:", decoded)
	}
}

// P1.4
func TestAllPairsOfBytes(t *testing.T) {
	for first := range 256 {
		for second := range 256 {
			_, e := Decode([]byte{byte(first), byte(second)})
			valid := first == api.IntV && second < 128 || (first == api.TextV || first == api.ListV) && second == 0
			if (e == api.OK) != valid {
				t.Error(first, second, e)
			}
		}
	}
}

// P1.4
func TestNoEncodingBeginsWithAnother(t *testing.T) {
	var encodings [][]byte
	for _, v := range someValues(2) {
		b, _ := Encode(v)
		encodings = append(encodings, b)
	}
	for i, x := range encodings {
		for k, y := range encodings {
			if i != k && bytes.HasPrefix(x, y) {
				t.Error(x, y)
			}
		}
	}
}

// P1.4
func TestSizesOfLists(t *testing.T) {
	values := someValues(2)
	for _, n := range []int{0, 1, 2, 127, 128, 129, len(values)} {
		l, zeros, elements := values[:n], list(), 0
		for _, v := range l {
			size, _ := Size(v)
			elements += size
			zeros.L = append(zeros.L, number(0))
		}
		head, _ := Size(zeros)
		if size, e := Size(list(l...)); e != api.OK || size != head-2*n+elements {
			t.Error(n, size, e)
		}
	}
}
