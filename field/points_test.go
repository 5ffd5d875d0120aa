package field_test

import (
	"bytes"
	"slices"
	"testing"

	"gridwright/api"
	"gridwright/field"
)

// P5.3
func TestPointsOfTheChapter(t *testing.T) {
	through(t, nil, nil, nil)
	through(t, []byte{}, nil, nil)
	through(t, nil, []byte{}, nil)
	through(t, []byte{1, 2}, []byte{5, 5}, []byte{5, 0})
	through(t, []byte{2, 1}, []byte{5, 5}, []byte{5, 0})
}

// P5.3
func TestFewPoints(t *testing.T) {
	for _, x := range []struct{ xs, ys, l []byte }{
		{[]byte{0}, []byte{0}, []byte{0}},
		{[]byte{0}, []byte{9}, []byte{9}},
		{[]byte{255}, []byte{9}, []byte{9}},
		{[]byte{0, 1}, []byte{9, 9}, []byte{9, 0}},
		{[]byte{0, 1}, []byte{9, 4}, []byte{9, 13}},
		{[]byte{1, 0}, []byte{4, 9}, []byte{9, 13}},
		{[]byte{7, 200}, []byte{7, 200}, []byte{0, 1}},
		{[]byte{2, 4}, []byte{5, 9}, []byte{1, 2}},
		{[]byte{0, 1, 2}, []byte{0, 0, 0}, []byte{0, 0, 0}},
		{[]byte{0, 1, 2}, []byte{0, 1, 4}, []byte{0, 0, 1}},
		{[]byte{3, 16, 1}, []byte{5, 27, 1}, []byte{0, 0, 1}},
		{[]byte{0, 255, 128, 1}, []byte{6, 6, 6, 6}, []byte{6, 0, 0, 0}},
	} {
		through(t, x.xs, x.ys, x.l)
	}
}

// P5.3
func TestThroughManyPoints(t *testing.T) {
	r := source(30)
	for n := range 24 {
		xs, ys := places(r, n), someBytes(r, n)
		for _, at := range everyByte() {
			if y, e := field.Through(xs, ys, at); e != api.OK || y != lagrange(t, xs, ys, at) {
				t.Error(xs, ys, at, y, e)
			}
		}
		l, e := field.Coefficients(xs, ys)
		if e != api.OK || len(l) != n || !slices.Equal(valuesOf(l, xs), ys) {
			t.Error(xs, ys, l, e)
		}
	}
}

// P5.3: a point at each byte.
func TestThroughAllBytes(t *testing.T) {
	r := source(31)
	for _, n := range []int{255, 256} {
		xs, ys := places(r, n), someBytes(r, n)
		l, e := field.Coefficients(xs, ys)
		if e != api.OK || len(l) != n || !slices.Equal(valuesOf(l, xs), ys) {
			t.Error(n, len(l), e)
		}
		for i := 0; i < n; i += 32 {
			if y, e := field.Through(xs, ys, xs[i]); e != api.OK || y != ys[i] {
				t.Error(n, xs[i], y, e)
			}
		}
	}
}

// P5.3
func TestListsThatAreNoPoints(t *testing.T) {
	all := everyByte()
	for _, x := range []struct{ xs, ys []byte }{
		{[]byte{1}, nil},
		{nil, []byte{1}},
		{nil, []byte{0}},
		{[]byte{0}, []byte{}},
		{[]byte{1, 2}, []byte{3}},
		{[]byte{1}, []byte{3, 4}},
		{[]byte{1, 2, 3}, []byte{3, 4, 0, 0}},
		{[]byte{1, 1}, []byte{3, 4}},
		{[]byte{1, 1}, []byte{3, 3}},
		{[]byte{0, 0}, []byte{0, 0}},
		{[]byte{255, 7, 255}, []byte{1, 2, 3}},
		{[]byte{7, 255, 255}, []byte{1, 2, 3}},
		{[]byte{0, 5, 9, 0}, []byte{1, 2, 3, 1}},
		{[]byte{0, 5, 9, 5, 8}, []byte{1, 2, 3, 4, 5}},
		{[]byte{1, 1}, []byte{3}},
		{[]byte{1, 1}, nil},
		{append(bytes.Clone(all), 0), make([]byte, 257)},
		{append(bytes.Clone(all), 255), append(bytes.Clone(all), 255)},
		{append([]byte{255}, all[:255]...), all[:255]},
		{append([]byte{254}, all[:255]...), all},
		{all, all[:255]},
		{all[:255], all},
		{make([]byte, 1<<20), make([]byte, 1<<20)},
		{bytes.Repeat(all, 1<<12), make([]byte, 1<<20)},
		{nil, make([]byte, 1<<20)},
	} {
		noPoints(t, x.xs, x.ys)
	}
}

// P5.3: each pair of places may be the one that repeats.
func TestEachRepeatedPlace(t *testing.T) {
	for i := range 9 {
		for k := range i {
			xs := places(source(32), 9)
			xs[i] = xs[k]
			noPoints(t, xs, make([]byte, 9))
			noPoints(t, xs, xs)
		}
	}
}

// P5.3
func TestPointsAreNotModified(t *testing.T) {
	xs, ys := []byte{9, 4, 0, 1}, []byte{1, 2, 3, 4}
	first, _ := field.Coefficients(xs[:3], ys[:3])
	want := bytes.Clone(first)
	second, _ := field.Coefficients(xs[:3], ys[:3])
	field.Through(xs[:3], ys[:3], 7)
	if !bytes.Equal(xs, []byte{9, 4, 0, 1}) || !bytes.Equal(ys, []byte{1, 2, 3, 4}) {
		t.Error("the points change:", xs, ys)
	}
	clear(second)
	clear(xs)
	clear(ys)
	if !bytes.Equal(first, want) {
		t.Error("the coefficients change:", first, want)
	}
}
