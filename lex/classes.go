package lex

// A class of bytes says what begins with them.
type class byte

const (
	other class = iota
	blank
	letter
	digit
	underscore
	sign
	slash // a sign, or half of what begins a comment
)

// classes has the classes of the bytes below 128. All bytes above are other ones.
var classes = [128]class{
	'\t': blank, '\n': blank, '\r': blank, ' ': blank,
	'0': digit, '1': digit, '2': digit, '3': digit, '4': digit,
	'5': digit, '6': digit, '7': digit, '8': digit, '9': digit,
	'A': letter, 'B': letter, 'C': letter, 'D': letter, 'E': letter, 'F': letter, 'G': letter,
	'H': letter, 'I': letter, 'J': letter, 'K': letter, 'L': letter, 'M': letter, 'N': letter,
	'O': letter, 'P': letter, 'Q': letter, 'R': letter, 'S': letter, 'T': letter, 'U': letter,
	'V': letter, 'W': letter, 'X': letter, 'Y': letter, 'Z': letter,
	'a': letter, 'b': letter, 'c': letter, 'd': letter, 'e': letter, 'f': letter, 'g': letter,
	'h': letter, 'i': letter, 'j': letter, 'k': letter, 'l': letter, 'm': letter, 'n': letter,
	'o': letter, 'p': letter, 'q': letter, 'r': letter, 's': letter, 't': letter, 'u': letter,
	'v': letter, 'w': letter, 'x': letter, 'y': letter, 'z': letter,
	'_': underscore,
	'{': sign, '}': sign, '(': sign, ')': sign, ';': sign, ',': sign, '=': sign, ':': sign,
	'.': sign, '<': sign, '>': sign, '!': sign, '+': sign, '-': sign, '*': sign, '/': slash,
}

func classOf(b byte) class {
	if int(b) < len(classes) {
		return classes[b]
	}
	return other
}

func isLetter(b byte) bool {
	return classOf(b) == letter
}

func isDigit(b byte) bool {
	return classOf(b) == digit
}

func isSign(b byte) bool {
	c := classOf(b)
	return c == sign || c == slash
}

// continuesName reports whether a byte can stand in a name after its first one.
func continuesName(b byte) bool {
	c := classOf(b)
	return c == letter || c == digit || c == underscore
}

func continuesLine(b byte) bool {
	return b != '\n'
}

// beginning returns the bytes of s before the first one that does not belong.
func beginning(s string, belongs func(b byte) bool) string {
	for i := range len(s) {
		if !belongs(s[i]) {
			return s[:i]
		}
	}
	return s
}
