package journal_test

import (
	"bytes"
	"encoding/binary"
	"math/rand/v2"
	"slices"
	"testing"

	"gridwright/api"
	"gridwright/disk"
	"gridwright/journal"
)

// P8.1
func TestOpenOfANewDisk(t *testing.T) {
	for _, n := range []int{1, 2, 3, 255, 256, 257, 4095, 4096} {
		j, e := journal.Open(made(t, n))
		if e != api.OK || len(j.Records) != 0 || j.Many != n || j.Synced != 0 {
			t.Error(n, j, e)
		}
	}
}

// P8.1
func TestOpenReturnsErrorsInOrder(t *testing.T) {
	for _, d := range invalid() {
		for _, stopped := range []bool{false, true} {
			d.Stopped = stopped
			noOpen(t, d, api.ErrDisk)
		}
	}
	_, d := filledDisk(t, 2, []byte("abc"))
	for _, left := range []int{-1, 0, 1, 65536} {
		d.Left = left
		pending, e := disk.Write(d, 1, nil)
		if e != api.OK {
			t.Fatal(e)
		}
		noOpen(t, pending, api.ErrArg)
		pending.Stopped = true
		noOpen(t, pending, api.ErrDisk)
		stopped := d
		stopped.Stopped = true
		noOpen(t, stopped, api.ErrDisk)
		opens(t, d, text("abc"))
		opens(t, disk.Restart(pending), text("abc"))
	}
}

// P8.1: the sectors of this disk, with their checksums, are written out.
func TestOpenOfWrittenSectors(t *testing.T) {
	first, second := make([]byte, size), make([]byte, size)
	copy(first, []byte{1, 2, 3, 4, 0x17, 0x8f, 0x0a, 0x04, 0, 0, 3, 3, 'a', 'b', 'c'})
	copy(first[124:], []byte{1, 2, 3, 4})
	copy(second, []byte{1, 2, 3, 4, 0x2e, 0xc1, 0x5e, 0x4b, 0, 1, 3, 0})
	copy(second[124:], []byte{1, 2, 3, 4})
	opens(t, diskOf(first, second), text("abc", ""))
}

// checksumOf is the definition of the checksum.
func checksumOf(b []byte) uint32 {
	n := uint32(4294967295)
	for _, c := range b {
		n ^= uint32(c)
		for range 8 {
			if n%2 == 1 {
				n = n/2 ^ 3988292384
			} else {
				n /= 2
			}
		}
	}
	return 4294967295 - n
}

// P8.1: the checksum of the tests is that of the chapter, and Open accepts no other one.
func TestChecksum(t *testing.T) {
	if n := checksumOf([]byte("123456789")); n != 3421780262 {
		t.Error(n)
	}
	r := source(1)
	for range 200 {
		data := someBytes(r, r.IntN(room+1))
		s := sectorOf(1+r.IntN(lastNumber), 0, 3, data)
		n := checksumOf(s[8:124])
		binary.BigEndian.PutUint32(s[4:8], n)
		opens(t, diskOf(s), [][]byte{data})
		for _, other := range []uint32{0, ^n, n + 1, n ^ 1<<31, r.Uint32()} {
			binary.BigEndian.PutUint32(s[4:8], other)
			opens(t, diskOf(s), nil)
		}
	}
}

// P8.1: all lengths of records that lie in up to three sectors, in any place.
func TestOpenOfRecordsOfAllLengths(t *testing.T) {
	r := source(2)
	for n := range 3*room + 2 {
		for _, generation := range []int{1, 255, 256, 1 << 31, lastNumber} {
			b := someBytes(r, n)
			sectors := [][]byte{sectorOf(1, 0, 3, nil)}
			sectors = append(sectors, sectorsOf(generation, 1, b)...)
			sectors = append(sectors, sectorOf(generation, len(sectors), 3, []byte{7}), make([]byte, size))
			opens(t, diskOf(sectors...), [][]byte{nil, b, {7}})
		}
	}
}

// P8.1: numbers of sectors have two bytes.
func TestOpenOfLongDisks(t *testing.T) {
	r := source(3)
	b := someBytes(r, mostSectors*room)
	opens(t, diskOf(sectorsOf(5, 0, b)...), [][]byte{b})
	var sectors, records [][]byte
	for at := range mostSectors {
		records = append(records, someBytes(r, r.IntN(room+1)))
		sectors = append(sectors, sectorOf(9, at, 3, records[at]))
	}
	opens(t, diskOf(sectors...), records)
	for _, at := range []int{1, 255, 256, 257, 512, 4095} {
		for _, other := range []int{at - 1, at + 1, at ^ 256, at ^ 4096, at ^ 1<<15} {
			l := slices.Clone(sectors)
			l[at] = sectorOf(9, other, 3, records[at])
			opens(t, diskOf(l...), records[:at])
		}
	}
}

// P8.1: a sector is not good if any bit is wrong, also if the checksum is that of its bytes.
func TestOpenOfOneSectorThatIsNotGood(t *testing.T) {
	good := parts{generation: 6, again: 6, number: 1, flags: 3, count: 4, data: []byte("wxyz")}
	try := func(s []byte, want bool) {
		t.Helper()
		first := sectorOf(1, 0, 3, []byte("abc"))
		if want {
			opens(t, diskOf(first, s), [][]byte{[]byte("abc"), s[12 : 12+int(s[11])]})
		} else {
			opens(t, diskOf(first, s), text("abc"))
		}
	}
	try(build(good), true)
	for at := range size {
		for bit := range 8 {
			s := build(good)
			s[at] ^= 1 << bit
			try(s, false)
		}
	}
	for _, g := range []uint32{0, 5, 7, 6 << 8, 6 << 24, lastNumber} {
		p := good
		p.generation = g
		try(build(p), false)
		p = good
		p.again = g
		try(build(p), false)
		p.generation = g
		try(build(p), g != 0)
	}
	for number := range 1 << 16 {
		p := good
		p.number = uint16(number)
		try(build(p), number == 1)
	}
	for flags := range 256 {
		p := good
		p.flags = byte(flags)
		try(build(p), flags == 3)
	}
	for count := range 256 {
		p := good
		p.count = byte(count)
		try(build(p), 4 <= count && count <= room)
		p.data = filled(200, room)
		try(build(p), count == room)
		p.data = nil
		try(build(p), count <= room)
	}
}

// P8.1: after its data, a sector has zero bytes.
func TestOpenLooksAtBytesAfterTheData(t *testing.T) {
	for count := range room + 1 {
		for at := range room {
			data := make([]byte, room)
			data[at] = 1
			s := build(parts{generation: 6, again: 6, flags: 3, count: byte(count), data: data})
			if at < count {
				opens(t, diskOf(s), [][]byte{data[:count]})
			} else {
				opens(t, diskOf(s), nil)
			}
		}
	}
}

// P8.1: a sector that does not end a record is full, and one that does not begin it is not empty.
func TestOpenLooksAtTheNumberOfBytes(t *testing.T) {
	for count := range room + 1 {
		data := filled(9, count)
		first, middle := filled(1, room), filled(2, room)
		full := sectorOf(4, 0, 1, first)
		last := sectorOf(4, 1, 2, []byte{5})
		want := func(ok bool, l ...[]byte) [][]byte {
			if ok {
				return l
			}
			return nil
		}
		opens(t, diskOf(sectorOf(4, 0, 1, data), last), want(count == room, append(bytes.Clone(data), 5)))
		opens(t, diskOf(full, sectorOf(4, 1, 2, data)), want(count >= 1, append(bytes.Clone(first), data...)))
		opens(t, diskOf(full, sectorOf(4, 1, 0, data), sectorOf(4, 2, 2, middle)), want(count == room, slices.Concat(first, data, middle)))
	}
}

// variants returns sectors with a number: two generations, all flags, and these numbers of bytes.
func variants(number int, counts ...int) (l [][]byte) {
	for generation := 1; generation <= 2; generation++ {
		for flags := range 4 {
			for _, count := range counts {
				l = append(l, sectorOf(generation, number, flags, filled(byte(10*number+flags), count)))
			}
		}
	}
	return l
}

// forAll calls do for all disks with a sector of each list.
func forAll(lists [][][]byte, do func(sectors [][]byte)) {
	sectors := make([][]byte, len(lists))
	var fill func(at int)
	fill = func(at int) {
		if at == len(lists) {
			do(sectors)
			return
		}
		for _, s := range lists[at] {
			sectors[at] = s
			fill(at + 1)
		}
	}
	fill(0)
}

// P8.1: all disks with up to four sectors of these forms.
func TestOpenOfSmallDisks(t *testing.T) {
	seen := map[int]int{}
	try := func(sectors [][]byte) {
		want := recordsOf(sectors)
		seen[len(want)]++
		opens(t, diskOf(sectors...), want)
	}
	forAll([][][]byte{variants(0, 0, 1, room)}, try)
	forAll([][][]byte{variants(0, 0, 1, room), variants(1, 0, 1, room)}, try)
	forAll([][][]byte{variants(0, 0, 1, room), variants(1, 0, 1, room), variants(2, 0, 1, room)}, try)
	forAll([][][]byte{variants(0, room), variants(1, room), variants(2, room), variants(3, room)}, try)
	for n := range 5 {
		if seen[n] == 0 {
			t.Error("no disk with so many records:", n)
		}
	}
}

// anySectors returns sectors most of which continue the ones before them, or begin with the same generation.
func anySectors(r *rand.Rand, n int) (l [][]byte) {
	generation, inside := 1+r.IntN(3), false
	for at := range n {
		flags, count := r.IntN(2)*2, room
		if !inside {
			flags++
		}
		if flags&2 != 0 {
			count = r.IntN(room + 1)
		}
		inside = flags&2 == 0
		p := parts{generation: uint32(generation), again: uint32(generation), number: uint16(at), flags: byte(flags), count: byte(count), data: someBytes(r, count)}
		switch r.IntN(40) {
		case 0:
			generation = 1 + r.IntN(4)
		case 1:
			p.number++
		case 2:
			p.flags = byte(r.IntN(6))
		case 3:
			p.count = byte(r.IntN(256))
		case 4:
			p.again++
		case 5:
			p.generation, p.again = 0, 0
		}
		l = append(l, build(p))
		if !inside && r.IntN(8) == 0 {
			generation++
		}
	}
	return l
}

// P8.1
func TestOpenOfAnyDisks(t *testing.T) {
	r := source(4)
	seen := map[int]int{}
	for range 20000 {
		sectors := anySectors(r, 1+r.IntN(12))
		want := recordsOf(sectors)
		seen[len(want)]++
		opens(t, diskOf(sectors...), want)
	}
	for n := range 7 {
		if seen[n] < 50 {
			t.Error("too few disks with so many records:", n, seen[n])
		}
	}
}

// P8.1: records with a lower generation than the one before them are left over, whatever follows.
func TestOpenLooksAtGenerations(t *testing.T) {
	for i, x := range []struct {
		generations []int
		want        int
	}{
		{[]int{1, 1, 1}, 3},
		{[]int{1, 2, 3}, 3},
		{[]int{3, 3, 2}, 2},
		{[]int{3, 2, 3}, 1},
		{[]int{2, 3, 2}, 2},
		{[]int{3, 1, 1}, 1},
		{[]int{lastNumber, lastNumber, lastNumber}, 3},
		{[]int{lastNumber, 1, lastNumber}, 1},
		{[]int{lastNumber - 1, lastNumber, lastNumber - 1}, 2},
		{[]int{255, 256, 257}, 3},
		{[]int{256, 255, 257}, 1},
		{[]int{1 << 31, 1<<31 - 1, 1 << 31}, 1},
		{[]int{1<<31 - 1, 1 << 31, 1<<31 + 1}, 3},
	} {
		for _, n := range []int{0, 1, room, room + 1} {
			var sectors, records [][]byte
			for k, g := range x.generations {
				records = append(records, filled(byte(k), n))
				sectors = append(sectors, sectorsOf(g, len(sectors), records[k])...)
			}
			opens(t, diskOf(sectors...), records[:x.want])
			if t.Failed() {
				t.Fatal(i, n)
			}
		}
	}
}

// P8.1: a record is in sectors of one generation, also if that of the later ones is higher.
func TestOpenOfRecordsOfTwoGenerations(t *testing.T) {
	b := filled(8, 2*room+5)
	for at := range 3 {
		for _, g := range []int{1, 3} {
			sectors := sectorsOf(2, 0, b)
			sectors[at] = sectorsOf(g, 0, b)[at]
			opens(t, diskOf(sectors...), nil)
		}
	}
	opens(t, diskOf(sectorsOf(2, 0, b)...), [][]byte{b})
}

// P8.1: a record whose end is not on the disk is no record.
func TestOpenOfRecordsWithoutEnd(t *testing.T) {
	for n := 1; n <= 4; n++ {
		sectors := sectorsOf(2, 1, filled(8, n*room+1))
		for cut := range n + 1 {
			l := append([][]byte{sectorOf(2, 0, 3, []byte("abc"))}, sectors[:cut]...)
			opens(t, diskOf(l...), text("abc"))
			opens(t, diskOf(append(l, make([]byte, size))...), text("abc"))
			opens(t, diskOf(append(l, sectorOf(2, len(l), 3, []byte("x")))...), wholeOf(cut))
		}
	}
}

// wholeOf returns the records if a further one stands after the cut sectors of a record without end.
func wholeOf(cut int) [][]byte {
	if cut == 0 {
		return text("abc", "x")
	}
	return text("abc")
}

// P8.1: the disk stays as it is, and so does the result, whatever is done with it.
func TestOpenIsPure(t *testing.T) {
	_, d := filledDisk(t, 9, []byte("abc"), nil, filled(3, room), filled(4, room+1))
	unchanged(t, api.Journal{}, d, nil, func() {
		j := opened(t, d)
		unchanged(t, j, d, nil, func() {
			x := appended(t, j, []byte("x"), []byte("y"))
			appended(t, j, []byte("z"))
			if _, y := synced(t, x, d); equalDisks(y, d) {
				t.Error("nothing is written")
			}
			opens(t, d, j.Records)
		})
	})
}
