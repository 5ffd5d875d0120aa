package lex_test

import (
	"slices"
	"strings"
	"testing"

	"gridwright/api"
	"gridwright/lex"
)

// P10.3: Lex of what Text returns are the same tokens.
func TestLexUndoesText(t *testing.T) {
	r := source(30)
	for range 5000 {
		l := someTokens(r, r.IntN(30))
		src, e := lex.Text(l)
		if e != api.OK {
			t.Fatal(l, e)
		}
		if x := lexed(t, src); !lex.Same(x, l) {
			t.Error(short(src), x)
		}
	}
}

// P10.3: all lists of up to three telling tokens, such as slashes that would begin a comment, and tokens that would run together.
func TestLexUndoesTextOfNeighbors(t *testing.T) {
	tokens := []api.Token{name("a"), name("B_"), name("z1"), name(strings.Repeat("n", 32)), number(0), number(1), number(10), number(mostNumber)}
	for _, s := range strings.Split(allSigns, "") {
		tokens = append(tokens, sign(s))
	}
	var extend func(l []api.Token)
	extend = func(l []api.Token) {
		src, e := lex.Text(l)
		if e != api.OK || !lex.Same(lexed(t, src), l) {
			t.Error(src, e)
		}
		for _, x := range tokens {
			if len(l) < 3 {
				extend(append(slices.Clone(l), x))
			}
		}
	}
	extend(nil)
}

// P10.3: texts that have as many bytes as a source can have, and those that have more.
func TestLexUndoesLongTexts(t *testing.T) {
	for _, n := range []int{32767, 32768, 32769} {
		l := slices.Repeat([]api.Token{sign("/")}, n)
		src, e := lex.Text(l)
		if e != api.OK || len(src) != 2*n-1 {
			t.Fatal(n, len(src), e)
		}
		if n > 32768 {
			isWrong(t, src, 0, api.ErrLimit)
		} else if !lex.Same(lexed(t, src), l) {
			t.Error(n)
		}
	}
}

// P10.3: Text of what Lex returns has the same tokens, once more.
func TestTextOfSources(t *testing.T) {
	r := source(31)
	for range 5000 {
		l := lexed(t, rightSource(r, 20))
		src, e := lex.Text(l)
		if e != api.OK || !lex.Same(lexed(t, src), l) {
			t.Error(src, l, e)
		}
	}
}

// P10.3: places are strictly increasing, at each of them the text of the token stands, and between tokens there are white space and comments only.
func TestPlaces(t *testing.T) {
	r := source(32)
	for range 5000 {
		src := rightSource(r, 25)
		end := 0
		for _, x := range lexed(t, src) {
			if x.At < end || !validOf(x) || !strings.HasPrefix(src[x.At:], written(x)) {
				t.Fatal(src, x)
			}
			is(t, src[end:x.At])
			end = x.At + len(written(x))
		}
		is(t, src[end:])
	}
}

// moved returns tokens by so many bytes later.
func moved(l []api.Token, by int) []api.Token {
	l = slices.Clone(l)
	for i := range l {
		l[i].At += by
	}
	return l
}

// P10.3: the tokens of two sources with a line feed between them.
func TestTwoSources(t *testing.T) {
	r := source(33)
	for range 5000 {
		a, b := rightSource(r, 10), rightSource(r, 10)
		is(t, a+"\n"+b, append(lexed(t, a), moved(lexed(t, b), len(a)+1)...)...)
	}
	for _, size := range []int{32767, 32768} {
		a, b := strings.Repeat("/ ", 20000)[:32767]+"/", strings.Repeat("a ", 20000)[:size]
		if size == 32768 {
			isWrong(t, a+"\n"+b, 0, api.ErrLimit)
			continue
		}
		is(t, a+"\n"+b, append(lexed(t, a), moved(lexed(t, b), len(a)+1)...)...)
	}
}

// P10.3: an error of the second of two sources is found at its place, and one of the first one hides it.
func TestTwoSourcesWithErrors(t *testing.T) {
	r := source(34)
	for range 5000 {
		a, b := rightSource(r, 10), someSource(r, 6)
		if _, place, e := lex.Lex(b); e != api.OK {
			isWrong(t, a+"\n"+b, len(a)+1+place, e)
			isWrong(t, b+"\n"+a, place, e)
		}
	}
}

// P10.3
func TestWhiteSpaceAndCommentsHaveNoTokens(t *testing.T) {
	r := source(35)
	pieces := []string{" ", "\t", "\n", "\r", "//\n", "// a $ 007 _\n", "///\r\n", "//\xff\x00\n", "\r\n"}
	for range 2000 {
		var src string
		for range r.IntN(20) {
			src += pieces[r.IntN(len(pieces))]
		}
		is(t, src)
		is(t, src+"// the end")
		is(t, src+"a"+src+"="+src, at(len(src), name("a")), at(2*len(src)+1, sign("=")))
	}
}

// P10.3: the source before the place of an error has tokens.
func TestSourcesBeforeErrors(t *testing.T) {
	r := source(36)
	seen := map[int]bool{}
	for range 20000 {
		src := someSource(r, 25)
		_, place, e := lex.Lex(src)
		if e == api.OK {
			continue
		}
		if e != api.ErrText || place < 0 || place >= len(src) {
			t.Fatal(short(src), place, e)
		}
		seen[place] = true
		want, _, _ := lexOf(src[:place])
		is(t, src[:place], want...)
	}
	if len(seen) < 50 {
		t.Error("few places:", len(seen))
	}
}
