package lex

import (
	"strconv"

	"gridwright/api"
)

const maxNumber = 1 << 40

func isValid(t api.Token) bool {
	switch t.Kind {
	case api.NameT:
		return Name(t.Text) && t.N == 0
	case api.NumberT:
		return t.Text == "" && 0 <= t.N && t.N <= maxNumber
	case api.SignT:
		return len(t.Text) == 1 && isSign(t.Text[0]) && t.N == 0
	}
	return false
}

// textOf returns the bytes of a valid token in a source.
func textOf(t api.Token) string {
	if t.Kind == api.NumberT {
		return strconv.Itoa(t.N)
	}
	return t.Text
}

func alike(t, u api.Token) bool {
	return t.Kind == u.Kind && t.Text == u.Text && t.N == u.N
}

// number returns the number with these digits. It looks at no more digits than it must, because many of them would overflow.
func number(digits string) (n int, ok bool) {
	if len(digits) > 1 && digits[0] == '0' {
		return 0, false
	}
	for i := range len(digits) {
		n = 10*n + int(digits[i]-'0')
		if n > maxNumber {
			return 0, false
		}
	}
	return n, true
}
