package lex_test

import (
	"slices"
	"strings"
	"testing"

	"gridwright/api"
	"gridwright/lex"
)

// isText fails unless tokens have this text.
func isText(t *testing.T, l []api.Token, want string) {
	t.Helper()
	if src, e := lex.Text(l); e != api.OK || src != want {
		t.Error(len(l), short(src), e, "instead of", short(want))
	}
}

// noText fails unless Text refuses tokens, without a result.
func noText(t *testing.T, l []api.Token) {
	t.Helper()
	if src, e := lex.Text(l); e != api.ErrText || src != "" {
		t.Error(len(l), short(src), e)
	}
}

// P10.2
func TestText(t *testing.T) {
	isText(t, nil, "")
	isText(t, []api.Token{}, "")
	isText(t, lexed(t, "a=1"), "a = 1")
	isText(t, []api.Token{number(0)}, "0")
	isText(t, []api.Token{number(mostNumber)}, "1099511627776")
	isText(t, []api.Token{number(mostNumber - 1), number(100)}, "1099511627775 100")
	isText(t, []api.Token{name(strings.Repeat("z", 32))}, strings.Repeat("z", 32))
	isText(t, []api.Token{sign("/"), sign("/"), name("a")}, "/ / a")
	isText(t, lexed(t, "  x // y\n\t<0z"), "x < 0 z")
	isText(t, slices.Repeat([]api.Token{name("ab")}, 100000), strings.TrimSuffix(strings.Repeat("ab ", 100000), " "))
	var all []api.Token
	for _, s := range strings.Split(allSigns, "") {
		isText(t, []api.Token{sign(s)}, s)
		all = append(all, sign(s))
	}
	isText(t, all, "{ } ( ) ; , = : . < > ! + - * /")
}

// P10.2: which bytes are signs, and names.
func TestTextOfEachByte(t *testing.T) {
	for k := range 256 {
		b := string([]byte{byte(k)})
		for _, x := range []api.Token{sign(b), name(b), name("a" + b), name(b + "a"), sign(b + b), {Kind: api.NumberT, Text: b}} {
			if want, e := textOf([]api.Token{x}); e != api.OK {
				noText(t, []api.Token{x})
			} else {
				isText(t, []api.Token{x}, want)
			}
		}
	}
}

// P10.2: the places of tokens do not matter.
func TestTextLooksAtNoPlaces(t *testing.T) {
	for _, place := range append(extremes(), 0, 1, mostSource) {
		isText(t, []api.Token{at(place, name("a")), at(place, number(5)), at(place, sign("!"))}, "a 5 !")
	}
}

// P10.2: a wrong token anywhere among others.
func TestTextRefusesTokens(t *testing.T) {
	r := source(20)
	for _, wrong := range wrongTokens() {
		noText(t, []api.Token{wrong})
		for _, n := range []int{1, 2, 5} {
			l := someTokens(r, n)
			for i := range n + 1 {
				noText(t, slices.Insert(slices.Clone(l), i, wrong))
			}
		}
		noText(t, []api.Token{wrong, wrong})
	}
}

// P10.2
func TestTextOfRandomTokens(t *testing.T) {
	r := source(21)
	wrong := wrongTokens()
	for range 5000 {
		l := someTokens(r, r.IntN(20))
		if r.IntN(4) == 0 {
			l = slices.Insert(l, r.IntN(len(l)+1), wrong[r.IntN(len(wrong))])
		}
		before := slices.Clone(l)
		want, e := textOf(l)
		if e != api.OK {
			noText(t, l)
		} else {
			isText(t, l, want)
		}
		if !slices.Equal(l, before) {
			t.Error("the tokens change:", l, before)
		}
	}
}

// P10.2: all pairs of tokens, valid or not, alone and in lists.
func TestSame(t *testing.T) {
	tokens := append(wrongTokens(), api.Token{}, name("a"), name("b"), name("ab"), name("A"), number(0), number(1), number(2), sign("="), sign("/"))
	tokens = append(tokens, someTokens(source(22), 40)...)
	for i, x := range tokens {
		for k, y := range tokens {
			want := at(0, x) == at(0, y)
			if i == k && !want {
				t.Fatal(x)
			}
			for _, pair := range [][2][]api.Token{{{x}, {y}}, {{x, x}, {x, y}}, {{x, y}, {y, y}}, {{x, y}, {y, x}}} {
				if lex.Same(pair[0], pair[1]) != want {
					t.Error(x, y, want)
				}
			}
		}
	}
}

// P10.2
func TestSameLooksAtNoPlaces(t *testing.T) {
	r := source(23)
	for range 500 {
		a := someTokens(r, r.IntN(10))
		b := slices.Clone(a)
		for i := range b {
			b[i].At = append(extremes(), 0, 5, i)[r.IntN(13)]
		}
		if !lex.Same(a, b) || !lex.Same(b, a) || !lex.Same(a, a) {
			t.Error(a, b)
		}
	}
}

// P10.2: nil is an empty list, and a beginning is not the same.
func TestSameLooksAtLengths(t *testing.T) {
	if !lex.Same(nil, []api.Token{}) || !lex.Same([]api.Token{}, nil) || !lex.Same(nil, nil) {
		t.Error("nil is another list")
	}
	l := someTokens(source(24), 9)
	for i := range 10 {
		for k := range 10 {
			if lex.Same(l[:i], l[:k]) != (i == k) {
				t.Error(i, k)
			}
			if (i < 9 || k < 9) && lex.Same(l[i:], l[k:]) != (i == k) {
				t.Error(i, k)
			}
		}
	}
	if lex.Same(nil, []api.Token{{}}) || lex.Same([]api.Token{{}}, nil) {
		t.Error("a zero token is no token")
	}
}

// P10.2: lists of any tokens are compared one by one.
func TestSameOfRandomTokens(t *testing.T) {
	r := source(25)
	some := []api.Token{name("a"), at(1, name("a")), name("b"), number(1), at(3, number(1)), sign("+"), {}, {Kind: api.NumberT, Text: "a", N: 1}}
	for range 20000 {
		var a, b []api.Token
		for range r.IntN(4) {
			a = append(a, some[r.IntN(len(some))])
		}
		for range r.IntN(4) {
			b = append(b, some[r.IntN(len(some))])
		}
		if lex.Same(a, b) != sameOf(a, b) {
			t.Error(a, b)
		}
	}
}

// P10.2
func TestName(t *testing.T) {
	for _, s := range []string{"a", "Z", "B_12", "a_", "a__9", "x0", "sum", strings.Repeat("a", 31), strings.Repeat("a", 32), "a" + strings.Repeat("_", 31), "Q" + strings.Repeat("0", 31)} {
		if !lex.Name(s) {
			t.Error(s)
		}
	}
	for _, s := range []string{"", "_", "_12", "1", "12", "1a", " ", " a", "a ", "a b", "a-b", "a.b", "a\n", "\na", "a\x00", "é", "aé", "a\xff", "=", "//", strings.Repeat("a", 33), strings.Repeat("a", 64), strings.Repeat("a", 256+5), strings.Repeat("a", 1<<20), strings.Repeat("_", 32)} {
		if lex.Name(s) {
			t.Error(short(s))
		}
	}
}

// P10.2: each byte at each place of a name.
func TestNameWithEachByte(t *testing.T) {
	for k := range 256 {
		for _, n := range []int{1, 2, 3, 31, 32, 33} {
			for i := range n {
				b := []byte(strings.Repeat("a", n))
				b[i] = byte(k)
				if s := string(b); lex.Name(s) != nameOf(s) {
					t.Error(short(s))
				}
			}
		}
	}
}
