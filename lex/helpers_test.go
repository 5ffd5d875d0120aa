package lex_test

import (
	"math"
	"math/big"
	"math/rand/v2"
	"regexp"
	"slices"
	"strconv"
	"strings"
	"testing"

	"gridwright/api"
	"gridwright/lex"
)

const (
	mostSource = 65536
	mostName   = 32
	mostNumber = 1099511627776 // 2^40
	allSigns   = "{}();,=:.<>!+-*/"
)

func source(seed uint64) *rand.Rand { return rand.New(rand.NewPCG(seed, 10)) }

func name(s string) api.Token { return api.Token{Kind: api.NameT, Text: s} }

func number(n int) api.Token { return api.Token{Kind: api.NumberT, N: n} }

func sign(s string) api.Token { return api.Token{Kind: api.SignT, Text: s} }

// at returns a token at another place.
func at(place int, t api.Token) api.Token {
	t.At = place
	return t
}

// The patterns are the definitions of the chapter.
var (
	passedPattern = regexp.MustCompile(`^(?:[ \t\n\r]|//[^\n]*)*`)
	wordPattern   = regexp.MustCompile(`^[A-Za-z][A-Za-z0-9_]*`)
	digitsPattern = regexp.MustCompile(`^[0-9]+`)
	signPattern   = regexp.MustCompile(`^[{}();,=:.<>!+\-*/]`)
	namePattern   = regexp.MustCompile(`^[A-Za-z][A-Za-z0-9_]{0,31}$`)
)

// nextOf is the definition of the token with which a source begins, and of its size; without one, the size is 0.
func nextOf(src string) (t api.Token, size int) {
	if word := wordPattern.FindString(src); word != "" && len(word) <= mostName {
		return name(word), len(word)
	}
	if digits := digitsPattern.FindString(src); digits != "" && (digits == "0" || digits[0] != '0') {
		if n, _ := new(big.Int).SetString(digits, 10); n.Cmp(big.NewInt(mostNumber)) <= 0 {
			return number(int(n.Int64())), len(digits)
		}
	}
	if text := signPattern.FindString(src); text != "" {
		return sign(text), 1
	}
	return api.Token{}, 0
}

// lexOf is the definition of Lex.
func lexOf(src string) (l []api.Token, place int, e api.Errno) {
	if len(src) > mostSource {
		return nil, 0, api.ErrLimit
	}
	for place = len(passedPattern.FindString(src)); place < len(src); {
		t, size := nextOf(src[place:])
		if size == 0 {
			return nil, place, api.ErrText
		}
		l = append(l, at(place, t))
		place += size
		place += len(passedPattern.FindString(src[place:]))
	}
	return l, 0, api.OK
}

// nameOf is the definition of Name.
func nameOf(s string) bool { return namePattern.MatchString(s) && !strings.HasSuffix(s, "\n") }

// validOf is the definition of a valid token.
func validOf(t api.Token) bool {
	switch t.Kind {
	case 1:
		return nameOf(t.Text) && t.N == 0
	case 2:
		return t.Text == "" && t.N >= 0 && t.N <= mostNumber
	case 3:
		return t.N == 0 && t.Text != "" && slices.Contains(strings.Split(allSigns, ""), t.Text)
	}
	return false
}

// textOf is the definition of Text.
func textOf(l []api.Token) (src string, e api.Errno) {
	for i, t := range l {
		if !validOf(t) {
			return "", api.ErrText
		}
		if i > 0 {
			src += " "
		}
		src += written(t)
	}
	return src, api.OK
}

// written is the text of a valid token in a source.
func written(t api.Token) string {
	if t.Kind == api.NumberT {
		return strconv.FormatInt(int64(t.N), 10)
	}
	return t.Text
}

// sameOf is the definition of Same.
func sameOf(a, b []api.Token) bool {
	if len(a) != len(b) {
		return false
	}
	for i, t := range a {
		if at(0, t) != at(0, b[i]) {
			return false
		}
	}
	return true
}

func short(src string) string {
	if len(src) > 60 {
		return strconv.Quote(src[:60]) + " and so on"
	}
	return strconv.Quote(src)
}

// is fails unless the source has these tokens, at their places.
func is(t *testing.T, src string, want ...api.Token) {
	t.Helper()
	if l, place, e := lex.Lex(src); e != api.OK || place != 0 || !slices.Equal(l, want) {
		t.Error(short(src), len(l), place, e, "instead of", len(want), "tokens")
	}
}

// isWrong fails unless Lex refuses the source, with this place, and returns no tokens.
func isWrong(t *testing.T, src string, place int, want api.Errno) {
	t.Helper()
	if l, got, e := lex.Lex(src); e != want || got != place || len(l) > 0 {
		t.Error(short(src), len(l), got, e, "instead of", place, want)
	}
}

// compare fails unless Lex does with a source what its definition says.
func compare(t *testing.T, src string) {
	t.Helper()
	want, place, e := lexOf(src)
	if e != api.OK {
		isWrong(t, src, place, e)
		return
	}
	is(t, src, want...)
}

// lexed returns the tokens of a source, which must have some.
func lexed(t *testing.T, src string) []api.Token {
	t.Helper()
	l, place, e := lex.Lex(src)
	if e != api.OK || place != 0 {
		t.Fatal(short(src), place, e)
	}
	return l
}

// extremes are numbers that no token has.
func extremes() []int {
	return []int{math.MinInt, math.MinInt + 1, -1 << 40, -1 << 32, -1, mostNumber + 1, 1 << 41, 1 << 62, math.MaxInt - 1, math.MaxInt}
}

// somePieces are pieces of sources, from which nearly all sources with short tokens can be made.
func somePieces() []string {
	return []string{"a", "Z", "z9", "B_12", "_", "__x", "0", "00", "7", "10", "1099511627776", "1099511627777", "é", "\x00", "\x80", "\xff", "$", "\v", "\f",
		" ", "  ", "\t", "\n", "\r", "\r\n", "/", "//", "///", "/ /", "// c\n", "//\r", "/**/", "\"", "=", "==", "<", ">", "!", "+", "-", "-1", "*", ".", "1.5", ",", ";", ":", "(", ")", "{", "}",
		strings.Repeat("q", 31), strings.Repeat("w", 32), strings.Repeat("e", 33)}
}

// someSource returns a source of up to n pieces.
func someSource(r *rand.Rand, n int) string {
	pieces := somePieces()
	var b strings.Builder
	for range r.IntN(n + 1) {
		b.WriteString(pieces[r.IntN(len(pieces))])
	}
	return b.String()
}

// rightSource returns a source that has tokens, of n pieces.
func rightSource(r *rand.Rand, n int) string {
	pieces := []string{"a", "Z9_", "sum", "0", "7", "30", " ", " ", "\t", "\n", "\r", "// c $ _\n", "//\r /\n", "/", "<", "=", "!", "{", "}", "(", ")", ";", ",", ".", ":", "+", "-", "*", ">"}
	var src string
	for range n {
		next := src + pieces[r.IntN(len(pieces))]
		if _, _, e := lexOf(next); e == api.OK {
			src = next
		}
	}
	return src
}

// someToken returns a valid token.
func someToken(r *rand.Rand) api.Token {
	const first = "ABCXYZabcxyz"
	const next = first + "0189_"
	place := r.IntN(100) - 50
	switch r.IntN(3) {
	case 0:
		text := string(first[r.IntN(len(first))])
		for range r.IntN(mostName) {
			text += string(next[r.IntN(len(next))])
		}
		return at(place, name(text))
	case 1:
		return at(place, number([]int{0, 1, 9, 10, 99, 100, r.IntN(1000), r.IntN(mostNumber + 1), mostNumber - 1, mostNumber}[r.IntN(10)]))
	}
	k := r.IntN(len(allSigns))
	return at(place, sign(allSigns[k:k+1]))
}

func someTokens(r *rand.Rand, n int) (l []api.Token) {
	for range n {
		l = append(l, someToken(r))
	}
	return l
}

// wrongTokens are tokens that are not valid.
func wrongTokens() (l []api.Token) {
	for _, kind := range []int{math.MinInt, -3, -1, 0, 4, 5, 1<<32 + 1, math.MaxInt} {
		for _, text := range []string{"", "a", "=", "1"} {
			l = append(l, api.Token{Kind: kind, Text: text}, api.Token{Kind: kind, Text: text, N: 1})
		}
	}
	for _, text := range []string{"", "_", "_a", "1", "1a", "a b", " a", "a ", "a-b", "=", "é", "aé", "a\x00", "a\n", "\na", "a\nb", "a\x80", "a$", "@", "[", "`", "{", "/", strings.Repeat("a", 33), strings.Repeat("a", 70000)} {
		l = append(l, name(text))
	}
	for _, text := range []string{"", "a", "1", " ", "_", "==", "//", "()", "{}", "/ ", " /", "$", "&", "'", "\"", "#", "%", "?", "@", "[", "\\", "]", "^", "`", "|", "~", "\n", "\x00", "\x80", "\xff", "é"} {
		l = append(l, sign(text))
	}
	for _, n := range extremes() {
		l = append(l, number(n), api.Token{Kind: api.NameT, Text: "a", N: n}, api.Token{Kind: api.SignT, Text: "=", N: n})
	}
	for _, text := range []string{"0", "1", "a", "=", " ", "\x00"} {
		l = append(l, api.Token{Kind: api.NumberT, Text: text}, api.Token{Kind: api.NumberT, Text: text, N: 1})
	}
	return append(l, api.Token{Kind: api.NameT, Text: "a", N: 1}, api.Token{Kind: api.SignT, Text: "=", N: 1})
}
