package lex_test

import (
	"slices"
	"strings"
	"testing"

	"gridwright/api"
	"gridwright/lex"
)

// P10.1: the examples of the chapter.
func TestExamples(t *testing.T) {
	is(t, "sum 30;", at(0, name("sum")), at(4, number(30)), at(6, sign(";")))
	is(t, "")
	isWrong(t, "007", 0, api.ErrText)
	is(t, "1099511627776", number(mostNumber))
	is(t, "a // b", name("a"))
	isWrong(t, "a $", 2, api.ErrText)
}

// P10.1: each byte alone, and between letters, digits and slashes.
func TestEachByte(t *testing.T) {
	for k := range 256 {
		b := string([]byte{byte(k)})
		for _, src := range []string{b, b + b, b + " " + b, "a" + b, "a" + b + "a", b + "a", "_" + b, "a_" + b, "1" + b, b + "1", "1" + b + "1", "0" + b, "/" + b, b + "/", "/" + b + "/", "// " + b + "$\na", "//" + b + "a\n" + b, "a\n" + b, " " + b} {
			compare(t, src)
		}
	}
}

// P10.1: which bytes begin which tokens, byte by byte.
func TestClassesOfBytes(t *testing.T) {
	for k := range 256 {
		b := string([]byte{byte(k)})
		switch {
		case 'A' <= k && k <= 'Z', 'a' <= k && k <= 'z':
			is(t, b, name(b))
		case '0' <= k && k <= '9':
			is(t, b, number(k-'0'))
		case slices.Contains([]byte(allSigns), byte(k)):
			is(t, b, sign(b))
		case k == 32, k == 9, k == 10, k == 13:
			is(t, b)
		default:
			isWrong(t, b, 0, api.ErrText)
		}
	}
}

// P10.1
func TestEachPairOfBytes(t *testing.T) {
	for k := range 1 << 16 {
		compare(t, string([]byte{byte(k >> 8), byte(k)}))
	}
}

// P10.1: all sources with up to five of some telling bytes.
func TestShortSources(t *testing.T) {
	var extend func(src string, left int)
	extend = func(src string, left int) {
		compare(t, src)
		if left == 0 {
			return
		}
		for _, b := range []byte("aZ_01/\n =$\xc3") {
			extend(src+string([]byte{b}), left-1)
		}
	}
	extend("", 5)
}

// P10.1
func TestNamesOfAllLengths(t *testing.T) {
	for n := 1; n <= 70; n++ {
		for _, word := range []string{strings.Repeat("a", n), "Z" + strings.Repeat("_", n-1), "m" + strings.Repeat("9", n-1)} {
			for _, before := range []string{"", " ", "=", "// c\n", "7", "b "} {
				for _, after := range []string{"", " ", ";", "//", "\n1", "é", "$"} {
					compare(t, before+word+after)
				}
			}
		}
	}
	is(t, "b "+strings.Repeat("a", 32), name("b"), at(2, name(strings.Repeat("a", 32))))
	isWrong(t, "b "+strings.Repeat("a", 33), 2, api.ErrText)
	isWrong(t, strings.Repeat("a", 33)+"$", 0, api.ErrText)
	isWrong(t, "\n"+strings.Repeat("a", mostSource-1), 1, api.ErrText)
}

// P10.1
func TestNumbers(t *testing.T) {
	for _, digits := range []string{"0", "1", "9", "10", "99", "100", "65536", "65537", "4294967295", "4294967296", "999999999999", "1099511627775", "1099511627776"} {
		l := lexed(t, "x="+digits+"y")
		if len(l) != 4 || written(l[2]) != digits || l[2].Text != "" || l[2].At != 2 || l[3] != at(2+len(digits), name("y")) {
			t.Error(digits, l)
		}
	}
	for _, digits := range []string{"00", "01", "000", "0000000000000000000000001", "1099511627777", "1099511627780", "1099511627786", "1100000000000", "2000000000000", "9999999999999", "10995116277760",
		"9223372036854775807", "9223372036854775808", "18446744073709551615", "18446744073709551616", "18446744073709551617", "36893488147419103232", "340282366920938463463374607431768211457",
		"1" + strings.Repeat("0", 100), strings.Repeat("0", 1000), "1" + strings.Repeat("0", 65000), strings.Repeat("9", 65000)} {
		isWrong(t, digits, 0, api.ErrText)
		isWrong(t, "7 "+digits+" a", 2, api.ErrText)
		isWrong(t, "a="+digits+";$", 2, api.ErrText)
	}
	for n := range 3000 {
		is(t, written(number(n)), number(n))
	}
	for shift := range 70 {
		for _, d := range []string{"", "0", "1"} {
			compare(t, written(number(1<<min(shift, 62)))+d)
		}
	}
}

// P10.1: numbers and names that touch are tokens of their own.
func TestTokensThatTouch(t *testing.T) {
	is(t, "1a", number(1), at(1, name("a")))
	is(t, "0x1", number(0), at(1, name("x1")))
	is(t, "12ab34", number(12), at(2, name("ab34")))
	is(t, "a1_b2", name("a1_b2"))
	is(t, "-1", sign("-"), at(1, number(1)))
	is(t, "<=", sign("<"), at(1, sign("=")))
	is(t, "1.5", number(1), at(1, sign(".")), at(2, number(5)))
	is(t, "a.b", name("a"), at(1, sign(".")), at(2, name("b")))
	isWrong(t, "1_0", 1, api.ErrText)
	isWrong(t, "1 _a", 2, api.ErrText)
	isWrong(t, "_", 0, api.ErrText)
	isWrong(t, "a 01", 2, api.ErrText)
}

// P10.1: a comment ends before the next line feed, and nothing else ends it.
func TestComments(t *testing.T) {
	is(t, "//")
	is(t, "//\n")
	is(t, "// a\r b")
	is(t, "// a\n// b\nc", at(10, name("c")))
	is(t, "a// b\nc", name("a"), at(6, name("c")))
	is(t, "///a\nb", at(5, name("b")))
	is(t, "a////\n/", name("a"), at(6, sign("/")))
	is(t, "// $ _ 007 \x00\xff é\na", at(17, name("a")))
	is(t, "/ /", sign("/"), at(2, sign("/")))
	is(t, "/\n/", sign("/"), at(2, sign("/")))
	is(t, "a/b", name("a"), at(1, sign("/")), at(2, name("b")))
	is(t, "/*/", sign("/"), at(1, sign("*")), at(2, sign("/")))
	is(t, "/* // */\n*/", sign("/"), at(1, sign("*")), at(9, sign("*")), at(10, sign("/")))
	is(t, "7//8\r\n9", number(7), at(6, number(9)))
	isWrong(t, "// a\n$", 5, api.ErrText)
	isWrong(t, "a\v", 1, api.ErrText)
	isWrong(t, "a\u00a0b", 1, api.ErrText)
	isWrong(t, "\ufeffa", 0, api.ErrText)
}

// P10.1: the first error counts.
func TestFirstError(t *testing.T) {
	isWrong(t, "$ 007", 0, api.ErrText)
	isWrong(t, "a 007 $", 2, api.ErrText)
	isWrong(t, "a $ _ 007", 2, api.ErrText)
	isWrong(t, "1099511627777$", 0, api.ErrText)
	isWrong(t, "a // $\n b _", 10, api.ErrText)
}

// P10.1
func TestSizesOfSources(t *testing.T) {
	for _, size := range []int{mostSource - 1, mostSource, mostSource + 1, mostSource + 2, 1 << 17, 1 << 20} {
		for _, piece := range []string{" ", "a ", "=", "/", "/ ", "7\n", "$", "é", "a", "0", "\x00"} {
			compare(t, strings.Repeat(piece, size)[:size])
			compare(t, "//"+strings.Repeat(piece, size)[:size-2])
			compare(t, strings.Repeat(" ", size-1)+piece[:1])
		}
	}
	is(t, strings.Repeat(" ", mostSource-1)+"a", at(mostSource-1, name("a")))
	isWrong(t, strings.Repeat(" ", mostSource)+"a", 0, api.ErrLimit)
	isWrong(t, strings.Repeat("$", mostSource), 0, api.ErrText)
	isWrong(t, strings.Repeat("$", mostSource+1), 0, api.ErrLimit)
	isWrong(t, strings.Repeat(" ", mostSource-1)+"$", mostSource-1, api.ErrText)
	isWrong(t, strings.Repeat(" ", mostSource+1), 0, api.ErrLimit)
}

// P10.1
func TestRandomSources(t *testing.T) {
	r := source(1)
	for range 20000 {
		compare(t, someSource(r, 12))
		compare(t, rightSource(r, 12))
	}
	for range 20 {
		compare(t, someSource(r, 3000))
	}
}

// P10.1: results depend on the source alone, also if results that were returned before are changed.
func TestLexReturnsNewTokens(t *testing.T) {
	src := "a = 12; // b"
	first := lexed(t, src)
	clear(first[:cap(first)])
	is(t, src, name("a"), at(2, sign("=")), at(4, number(12)), at(6, sign(";")))
	isWrong(t, "a $", 2, api.ErrText)
	is(t, src, lexed(t, src)...)
	if l, _, _ := lex.Lex(""); len(l) != 0 {
		t.Error(l)
	}
}
