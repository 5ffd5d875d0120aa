package journal

import (
	"bytes"
	"iter"
	"math"

	"gridwright/api"
	"gridwright/disk"
)

// occupied returns how many sectors a record occupies.
func occupied(b []byte) int {
	return max(1, (len(b)+dataSize-1)/dataSize)
}

func occupiedByAll(l [][]byte) (n int) {
	for _, b := range l {
		n += occupied(b)
	}
	return n
}

// free returns how many sectors are not occupied.
func free(j api.Journal) int {
	return j.Many - occupiedByAll(j.Records)
}

// running returns the error with which a disk is refused.
func running(d api.Disk) api.Errno {
	if e := disk.Check(d); e != api.OK {
		return e
	}
	if d.Stopped {
		return api.ErrDisk
	}
	return api.OK
}

// records yields the records on a disk with these sectors.
func records(sectors [][]byte) iter.Seq[[]byte] {
	return func(yield func([]byte) bool) {
		before := uint32(0)
		for at := 0; ; {
			b, generation, ok := recordAt(sectors, at)
			// What is older than the record before it was written before that one, and is left over.
			if !ok || generation < before || !yield(b) {
				return
			}
			at += occupied(b)
			before = generation
		}
	}
}

// recordAt returns the record that begins at a sector, with its generation.
func recordAt(sectors [][]byte, first int) (b []byte, generation uint32, ok bool) {
pieces:
	for at := first; at < len(sectors); at++ {
		p, good := pieceOf(sectors[at], at)
		switch {
		case !good || p.begins() != (at == first):
			break pieces
		case at > first && p.generation != generation:
			break pieces
		}
		generation = p.generation
		b = append(b, p.data...)
		if p.ends() {
			return b, generation, true
		}
	}
	return nil, 0, false
}

// syncable returns the error with which Sync refuses its arguments.
func syncable(j api.Journal, d api.Disk) api.Errno {
	if e := Check(j); e != api.OK {
		return e
	}
	if e := running(d); e != api.OK {
		return e
	}
	if j.Many != len(d.Sectors) || len(d.Pending) > 0 {
		return api.ErrArg
	}
	if !contains(d, j.Records[:j.Synced]) || nextGeneration(d) > math.MaxUint32 {
		return api.ErrLog
	}
	return api.OK
}

// contains reports whether the records on a disk are exactly these.
func contains(d api.Disk, l [][]byte) bool {
	n := 0
	for b := range records(d.Sectors) {
		if n == len(l) || !bytes.Equal(b, l[n]) {
			return false
		}
		n++
	}
	return n == len(l)
}

// nextGeneration is greater than the generations at both ends of all sectors, also of those that are torn or left over.
func nextGeneration(d api.Disk) int {
	n := 0
	for _, b := range d.Sectors {
		n = max(n, numberOf(b), numberOf(b[againAt:]))
	}
	return n + 1
}

// written returns a disk to which the records that are not synced are written, for which there is room.
func written(j api.Journal, d api.Disk) api.Disk {
	generation := uint32(nextGeneration(d))
	at := occupiedByAll(j.Records[:j.Synced])
	for _, b := range j.Records[j.Synced:] {
		for _, p := range pieces(b, generation, at) {
			s := p.sector()
			// Nothing is pending but sectors of the journal, so that a write cannot fail.
			d, _ = disk.Write(d, p.number, s[:])
		}
		at += occupied(b)
	}
	return d
}

// pieces returns the pieces of a record, which begins at a sector.
func pieces(b []byte, generation uint32, first int) []piece {
	l := make([]piece, occupied(b))
	for i := range l {
		n := min(dataSize, len(b))
		l[i] = piece{generation: generation, number: first + i, data: b[:n]}
		b = b[n:]
	}
	l[0].flags |= begins
	l[len(l)-1].flags |= ends
	return l
}
