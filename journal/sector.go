package journal

import "gridwright/api"

// Where the parts of a sector begin.
const (
	checksumAt = 4
	numberAt   = 8 // here begins, too, what the checksum covers
	flagsAt    = 10
	lengthAt   = 11
	dataAt     = 12
	againAt    = 124 // the generation once more, so that a torn sector has two different ones
)

// dataSize is how many bytes of a record a sector has room for.
const dataSize = againAt - dataAt

const (
	begins = 1 // a record begins in the sector
	ends   = 2 // a record ends in the sector
)

// piece is what a sector of the journal contains.
type piece struct {
	generation uint32
	number     int
	flags      byte
	data       []byte
}

func (p piece) begins() bool { return p.flags&begins != 0 }

func (p piece) ends() bool { return p.flags&ends != 0 }

// isAllowed reports whether a good sector can contain a piece, which has at most dataSize bytes of a record.
func (p piece) isAllowed() bool {
	switch {
	case p.generation == 0 || p.flags > begins|ends:
		return false
	case !p.ends() && len(p.data) < dataSize:
		return false
	}
	return p.begins() || len(p.data) > 0
}

// sector returns the sector that contains a piece.
func (p piece) sector() (s [api.SectorSize]byte) {
	generation := bigEndian(p.generation)
	copy(s[:], generation[:])
	copy(s[againAt:], generation[:])
	s[numberAt], s[numberAt+1] = byte(p.number>>8), byte(p.number)
	s[flagsAt] = p.flags
	s[lengthAt] = byte(len(p.data))
	copy(s[dataAt:], p.data)
	sum := bigEndian(checksum(s[numberAt:againAt]))
	copy(s[checksumAt:], sum[:])
	return s
}

// pieceOf returns what a sector contains, if it is good for a number.
func pieceOf(b []byte, number int) (p piece, ok bool) {
	n := int(b[lengthAt])
	if n > dataSize {
		return piece{}, false
	}
	p = piece{generation: uint32(numberOf(b)), number: number, flags: b[flagsAt], data: b[dataAt : dataAt+n]}
	// A sector has the form of a journal exactly if writing what it contains leads to the same bytes.
	if !p.isAllowed() || [api.SectorSize]byte(b) != p.sector() {
		return piece{}, false
	}
	return p, true
}

// bigEndian returns the bytes of a number, the most significant one first.
func bigEndian(n uint32) [4]byte {
	return [4]byte{byte(n >> 24), byte(n >> 16), byte(n >> 8), byte(n)}
}

// numberOf returns the number that the first four bytes represent.
func numberOf(b []byte) (n int) {
	for _, c := range b[:4] {
		n = n<<8 + int(c)
	}
	return n
}

// checksum is the cyclic redundancy check with 32 bits, bit by bit.
func checksum(b []byte) uint32 {
	const polynomial = 0xedb88320
	n := ^uint32(0)
	for _, c := range b {
		n ^= uint32(c)
		for range 8 {
			out := n & 1
			n >>= 1
			if out == 1 {
				n ^= polynomial
			}
		}
	}
	return ^n
}
