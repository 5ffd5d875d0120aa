package codec

import (
	"bytes"
	"math"
	"slices"
	"strings"
	"testing"

	"gridwright/api"
)

func number(n int) api.Value { return api.Value{Kind: api.IntV, N: n} }

func text(s string) api.Value { return api.Value{Kind: api.TextV, S: s} }

func list(l ...api.Value) api.Value { return api.Value{Kind: api.ListV, L: l} }

// within puts lists around a value.
func within(lists int, v api.Value) api.Value {
	for range lists {
		v = list(v)
	}
	return v
}

func join(parts ...[]byte) []byte { return slices.Concat(parts...) }

func times(n int, b ...byte) []byte { return bytes.Repeat(b, n) }

type coded struct {
	v api.Value
	b []byte
}

// codedValues has the examples of the chapter, and the values at the edges of its definitions.
func codedValues() []coded {
	return []coded{
		{number(0), []byte{1, 0}},
		{number(-1), []byte{1, 1}},
		{number(1), []byte{1, 2}},
		{number(-2), []byte{1, 3}},
		{number(-3), []byte{1, 5}},
		{number(63), []byte{1, 126}},
		{number(-64), []byte{1, 127}},
		{number(64), []byte{1, 128, 1}},
		{number(-65), []byte{1, 129, 1}},
		{number(100), []byte{1, 200, 1}},
		{number(8191), []byte{1, 254, 127}},
		{number(-8192), []byte{1, 255, 127}},
		{number(8192), []byte{1, 128, 128, 1}},
		{number(1 << 61), join([]byte{1}, times(8, 128), []byte{64})},
		{number(1<<62 - 1), join([]byte{1, 254}, times(7, 255), []byte{127})},
		{number(-1 << 62), join([]byte{1}, times(8, 255), []byte{127})},
		{number(1 << 62), join([]byte{1}, times(9, 128), []byte{1})},
		{number(math.MaxInt), join([]byte{1, 254}, times(8, 255), []byte{1})},
		{number(math.MinInt), join([]byte{1}, times(9, 255), []byte{1})},
		{text(""), []byte{2, 0}},
		{text("ab"), []byte{2, 2, 97, 98}},
		{text("\x00\xff\x80"), []byte{2, 3, 0, 255, 128}},
		{text(strings.Repeat("x", 127)), join([]byte{2, 127}, times(127, 'x'))},
		{text(strings.Repeat("x", 128)), join([]byte{2, 128, 1}, times(128, 'x'))},
		{text(strings.Repeat("x", 16384)), join([]byte{2, 128, 128, 1}, times(16384, 'x'))},
		{list(), []byte{3, 0}},
		{list(number(0)), []byte{3, 1, 1, 0}},
		{list(number(100), text("ab")), []byte{3, 2, 1, 200, 1, 2, 2, 97, 98}},
		{list(text("ab"), number(100)), []byte{3, 2, 2, 2, 97, 98, 1, 200, 1}},
		{list(list(), text(""), list(list(number(-3)))), []byte{3, 3, 3, 0, 2, 0, 3, 1, 3, 1, 1, 5}},
		{list(make127()...), join([]byte{3, 127}, times(127, 1, 0))},
		{list(append(make127(), number(0))...), join([]byte{3, 128, 1}, times(128, 1, 0))},
		{within(15, list()), join(times(15, 3, 1), []byte{3, 0})},
		{within(16, number(-3)), join(times(16, 3, 1), []byte{1, 5})},
		{list(within(15, text("a")), list()), join([]byte{3, 2}, times(15, 3, 1), []byte{2, 1, 'a', 3, 0})},
	}
}

func make127() []api.Value { return slices.Repeat([]api.Value{number(0)}, 127) }

type refused struct {
	v api.Value
	e api.Errno
}

// refusedValues has values that are not well-formed, and values that are too deep.
func refusedValues() []refused {
	one := []api.Value{number(1)}
	return []refused{
		{api.Value{}, api.ErrArg},
		{api.Value{Kind: 4}, api.ErrArg},
		{api.Value{Kind: -1}, api.ErrArg},
		{api.Value{Kind: math.MaxInt}, api.ErrArg},
		{api.Value{Kind: math.MinInt}, api.ErrArg},
		{api.Value{Kind: 256 + api.IntV}, api.ErrArg},
		{api.Value{N: 1, S: "a", L: one}, api.ErrArg},
		{api.Value{Kind: api.IntV, S: "a"}, api.ErrArg},
		{api.Value{Kind: api.IntV, L: one}, api.ErrArg},
		{api.Value{Kind: api.IntV, N: 1, L: []api.Value{{}}}, api.ErrArg},
		{api.Value{Kind: api.TextV, N: 1}, api.ErrArg},
		{api.Value{Kind: api.TextV, S: "a", N: -1}, api.ErrArg},
		{api.Value{Kind: api.TextV, L: one}, api.ErrArg},
		{api.Value{Kind: api.ListV, N: 1}, api.ErrArg},
		{api.Value{Kind: api.ListV, S: "a"}, api.ErrArg},
		{api.Value{Kind: api.ListV, S: "a", L: one}, api.ErrArg},
		{list(api.Value{}), api.ErrArg},
		{list(number(1), list(text("a"), api.Value{Kind: 4})), api.ErrArg},
		{list(api.Value{Kind: api.TextV, N: 1}, number(1)), api.ErrArg},
		{within(17, number(0)), api.ErrLimit},
		{within(16, list()), api.ErrLimit},
		{list(within(15, list()), number(1)), api.ErrLimit},
		{list(number(1), within(15, list())), api.ErrLimit},
		{within(1000, text("a")), api.ErrLimit},
		{within(1<<16, list()), api.ErrLimit},
		{within(17, api.Value{}), api.ErrArg},
		{list(within(16, list()), api.Value{}), api.ErrArg},
		{within(1<<16, api.Value{}), api.ErrArg},
	}
}

// P1.1
func TestValuesAreEncoded(t *testing.T) {
	for i, x := range codedValues() {
		if e := Check(x.v); e != api.OK {
			t.Error(i, "Check:", e)
		}
		if b, e := Encode(x.v); e != api.OK || !bytes.Equal(b, x.b) {
			t.Error(i, "Encode:", b, e)
		}
		if n, e := Size(x.v); e != api.OK || n != len(x.b) {
			t.Error(i, "Size:", n, e)
		}
	}
}

// P1.1
func TestNilAndEmptyListsAreEncodedAlike(t *testing.T) {
	for i, x := range []coded{
		{api.Value{Kind: api.IntV, L: []api.Value{}}, []byte{1, 0}},
		{api.Value{Kind: api.TextV, L: []api.Value{}}, []byte{2, 0}},
		{api.Value{Kind: api.ListV, L: []api.Value{}}, []byte{3, 0}},
	} {
		b, e := Encode(x.v)
		n, f := Size(x.v)
		if Check(x.v) != api.OK || e != api.OK || !bytes.Equal(b, x.b) || f != api.OK || n != len(x.b) {
			t.Error(i, b, e, n, f)
		}
	}
}

// P1.1
func TestValuesAreRefused(t *testing.T) {
	for i, x := range refusedValues() {
		if e := Check(x.v); e != x.e {
			t.Error(i, "Check:", e)
		}
		if b, e := Encode(x.v); e != x.e || len(b) > 0 {
			t.Error(i, "Encode:", len(b), e)
		}
		if n, e := Size(x.v); e != x.e || n != 0 {
			t.Error(i, "Size:", n, e)
		}
	}
}

// P1.1
func TestEncodeReturnsNewBytes(t *testing.T) {
	v := list(text("ab"), number(1))
	first, _ := Encode(v)
	clear(first)
	second, _ := Encode(v)
	if !bytes.Equal(second, []byte{3, 2, 2, 2, 97, 98, 1, 2}) || !Same(v, list(text("ab"), number(1))) {
		t.Error(second, v)
	}
}

// P1.2
func TestEncodingsAreDecoded(t *testing.T) {
	for i, x := range codedValues() {
		if v, e := Decode(x.b); e != api.OK || !Same(v, x.v) {
			t.Error(i, v, e)
		}
	}
}

// P1.2
func TestBytesAreRefused(t *testing.T) {
	for i, b := range [][]byte{
		nil, {},
		{0}, {0, 0}, {4}, {4, 0}, {255, 0}, {129, 0},
		{1}, {1, 128}, {1, 128, 128},
		{1, 128, 0}, {1, 133, 0}, {1, 255, 128, 0}, {1, 129, 128, 0},
		{1, 5, 0}, {1, 5, 1, 5},
		join([]byte{1}, times(9, 255)),
		join([]byte{1}, times(9, 255), []byte{0}),
		join([]byte{1}, times(9, 255), []byte{2}),
		join([]byte{1}, times(9, 128), []byte{127}),
		join([]byte{1}, times(9, 255), []byte{128}),
		join([]byte{1}, times(9, 255), []byte{128, 0}),
		join([]byte{1}, times(9, 255), []byte{129, 0}),
		join([]byte{1}, times(9, 255), []byte{129, 1}),
		join([]byte{1}, times(1000, 128), []byte{1}),
		{2}, {2, 1}, {2, 3, 97}, {2, 3, 97, 98}, {2, 0, 0}, {2, 1, 97, 98}, {2, 128, 0}, {2, 130, 0, 97, 98},
		join([]byte{2}, times(8, 255), []byte{127}),
		join([]byte{2}, times(9, 255), []byte{1}),
		join([]byte{2}, times(9, 255), []byte{1, 97}),
		{3}, {3, 1}, {3, 1, 1}, {3, 2, 1, 0}, {3, 0, 3, 0}, {3, 0, 0}, {3, 128, 0}, {3, 129, 0, 1, 0},
		{3, 1, 5}, {3, 1, 0, 0}, {3, 1, 1, 128, 0}, {3, 2, 1, 0, 2, 1}, {3, 1, 1, 0, 1, 0},
		join([]byte{3}, times(9, 255), []byte{1}),
		join([]byte{3}, times(9, 255), []byte{1, 1, 0}),
		join(times(16, 3, 1), []byte{3, 0}),
		join(times(17, 3, 1), []byte{1, 0}),
		join([]byte{3, 2, 1, 0}, times(15, 3, 1), []byte{3, 0}),
		times(1<<20, 3, 1),
	} {
		if v, e := Decode(b); e != api.ErrCode || !Same(v, api.Value{}) {
			t.Error(i, e)
		}
	}
}

// P1.2
func TestPiecesOfEncodingsAreRefused(t *testing.T) {
	for i, x := range codedValues() {
		if _, e := Decode(append(bytes.Clone(x.b), 0)); e != api.ErrCode {
			t.Error(i, "a byte more:", e)
		}
		for n := range min(len(x.b), 200) {
			if v, e := Decode(x.b[:n]); e != api.ErrCode || !Same(v, api.Value{}) {
				t.Error(i, n, e)
			}
		}
	}
}

// P1.2
func TestDecodeLeavesItsArgument(t *testing.T) {
	b := []byte{3, 2, 2, 2, 97, 98, 1, 5, 77}
	v, e := Decode(b[:8])
	if e != api.OK || !bytes.Equal(b, []byte{3, 2, 2, 2, 97, 98, 1, 5, 77}) {
		t.Fatal(b, e)
	}
	clear(b)
	if !Same(v, list(text("ab"), number(-3))) {
		t.Error("the value changes with the bytes:", v)
	}
}

// P1.3
func TestSameComparesAllFields(t *testing.T) {
	values := []api.Value{
		{}, {N: 1}, {S: "a"}, {L: []api.Value{{}}}, {Kind: 4}, {Kind: -1},
		{Kind: api.IntV, S: "a"}, {Kind: api.IntV, L: []api.Value{{}}}, {Kind: api.IntV, N: 1, S: "a"},
		{Kind: api.TextV, N: 1}, {Kind: api.TextV, S: "a", N: 1}, {Kind: api.TextV, S: "a", L: []api.Value{{}}},
		{Kind: api.ListV, N: 1}, {Kind: api.ListV, S: "a"}, {Kind: api.ListV, S: "a", L: []api.Value{{}}},
		number(0), number(1), number(-1), number(math.MinInt), number(math.MaxInt),
		text(""), text("a"), text("b"), text("ab"), text("a\x00"),
		list(), list(api.Value{}), list(number(0)), list(number(1)), list(text("")), list(list()),
		list(number(1), number(2)), list(number(2), number(1)), list(number(1), number(2), number(3)),
		list(list(number(1)), number(2)), list(list(number(1), number(2))),
		within(16, list()), within(17, list()), within(17, number(1)), within(1<<16, number(1)), within(1<<16, number(2)),
	}
	for i, x := range values {
		for k, y := range values {
			if Same(x, y) != (i == k) {
				t.Error(i, k)
			}
		}
	}
}

// P1.3
func TestSameTakesNilForEmpty(t *testing.T) {
	for kind := -1; kind <= 4; kind++ {
		x, y := api.Value{Kind: kind}, api.Value{Kind: kind, L: []api.Value{}}
		if !Same(x, y) || !Same(y, x) || !Same(list(x), list(y)) || !Same(y, y) {
			t.Error(kind)
		}
	}
}

// P1.3
func TestSameLooksAtContentsOnly(t *testing.T) {
	x := list(text("ab"), list(number(1)))
	y := list(text(string([]byte{'a', 'b'})), list(number(1)))
	y.L = append(make([]api.Value, 0, 9), y.L...)
	if !Same(x, y) || !Same(y, x) {
		t.Error("equal values in different memory")
	}
}
