package codec

const (
	digitBits = 7
	base      = 1 << digitBits
	// The greatest number with 64 bits has a digit maxLast at the bit lastShift, and no digit after it.
	lastShift = 63
	maxLast   = 1
)

// numeral returns the digits of u, the least significant one first.
func numeral(u uint64) string {
	var digits []byte
	for u >= base {
		digits = append(digits, byte(u%base+base))
		u /= base
	}
	return string(append(digits, byte(u)))
}

// unsigned returns 2n for n of at least 0, and -2n - 1 otherwise. It uses ^n, which is -n - 1, because -n may overflow.
func unsigned(n int) uint64 {
	if n >= 0 {
		return 2 * uint64(n)
	}
	return 2*uint64(^n) + 1
}

// signed returns the number whose unsigned form is u.
func signed(u uint64) int {
	half := int(u / 2)
	if u%2 == 0 {
		return half
	}
	return ^half
}
