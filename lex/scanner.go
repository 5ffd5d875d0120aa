package lex

import (
	"strings"

	"gridwright/api"
)

// A scanner reads a source. The bytes before at have been read, and have these tokens.
type scanner struct {
	src    string
	at     int
	tokens []api.Token
}

// A place is what a scanner panics with: the index of a byte that begins no token, or a wrong one.
type place int

// scan reads the source to its end.
func (s *scanner) scan() {
	scanners := [...]func(s *scanner){
		other:      refuse,
		blank:      passBlank,
		letter:     takeName,
		digit:      takeNumber,
		underscore: refuse,
		sign:       takeSign,
		slash:      passCommentOrTakeSign,
	}
	for s.at < len(s.src) {
		scanners[classOf(s.src[s.at])](s)
	}
}

func refuse(s *scanner) {
	panic(place(s.at))
}

func passBlank(s *scanner) {
	s.at++
}

func takeName(s *scanner) {
	word := beginning(s.left(), continuesName)
	if !Name(word) {
		refuse(s)
	}
	s.take(api.Token{Kind: api.NameT, Text: word}, len(word))
}

func takeNumber(s *scanner) {
	digits := beginning(s.left(), isDigit)
	n, ok := number(digits)
	if !ok {
		refuse(s)
	}
	s.take(api.Token{Kind: api.NumberT, N: n}, len(digits))
}

func takeSign(s *scanner) {
	s.take(api.Token{Kind: api.SignT, Text: s.left()[:1]}, 1)
}

func passCommentOrTakeSign(s *scanner) {
	if strings.HasPrefix(s.left(), "//") {
		s.at += len(beginning(s.left(), continuesLine))
		return
	}
	takeSign(s)
}

func (s *scanner) left() string {
	return s.src[s.at:]
}

// take adds the token that the next bytes are.
func (s *scanner) take(t api.Token, size int) {
	t.At = s.at
	s.tokens = append(s.tokens, t)
	s.at += size
}
