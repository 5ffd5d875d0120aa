package journal_test

import (
	"math"
	"math/rand/v2"
	"slices"
	"testing"

	"gridwright/api"
	"gridwright/disk"
	"gridwright/journal"
)

// anyRecords returns some records that occupy at most so many sectors.
func anyRecords(r *rand.Rand, sectors int) (l [][]byte) {
	for {
		b := someBytes(r, []int{0, r.IntN(5), room, room + 1, r.IntN(4 * room)}[r.IntN(5)])
		if sectors -= sectorsFor(b); sectors < 0 || r.IntN(6) == 0 {
			return l
		}
		l = append(l, b)
	}
}

// P8.3
func TestSyncOfRecordsOfAllLengths(t *testing.T) {
	r := source(20)
	for n := range 3*room + 2 {
		j, d := filledDisk(t, 8, []byte("abc"), nil)
		b := someBytes(r, n)
		_, y, _ := syncs(t, appended(t, j, b, []byte("x")), d)
		opens(t, y, [][]byte{[]byte("abc"), nil, b, []byte("x")})
	}
}

// P8.3: the sectors of this disk, with their checksums, are written out.
func TestSyncWritesSectors(t *testing.T) {
	d := made(t, 3)
	d.Sectors[2] = filled(7, size)
	copy(d.Sectors[2], []byte{1, 2, 3, 2})
	copy(d.Sectors[2][124:], []byte{1, 2, 3, 3})
	_, y, e := journal.Sync(appended(t, opened(t, d), []byte("abc"), nil), d)
	first, second := make([]byte, size), make([]byte, size)
	copy(first, []byte{1, 2, 3, 4, 0x17, 0x8f, 0x0a, 0x04, 0, 0, 3, 3, 'a', 'b', 'c'})
	copy(first[124:], []byte{1, 2, 3, 4})
	copy(second, []byte{1, 2, 3, 4, 0x2e, 0xc1, 0x5e, 0x4b, 0, 1, 3, 0})
	copy(second[124:], []byte{1, 2, 3, 4})
	if e != api.OK || !equalDisks(y, diskOf(first, second, d.Sectors[2])) {
		t.Error(e, y)
	}
}

// P8.3: series of appended records, synced one after the other, with disks that stop after any number of writes.
func TestSyncOfAnyJournals(t *testing.T) {
	r := source(21)
	for range 1500 {
		d := made(t, 1+r.IntN(12))
		j := opened(t, d)
		for range 5 {
			j = appended(t, j, anyRecords(r, journal.Room(j)/room)...)
			if r.IntN(2) == 0 {
				d = limited(t, d, r.IntN(8))
			}
			x, y, e := syncs(t, j, d)
			if e != api.OK {
				y = disk.Restart(y)
				x = opened(t, y)
			}
			j, d = x, y
		}
	}
}

// P8.3: numbers of sectors have two bytes, and all sectors of the longest disk can be written at once.
func TestSyncOfLongDisks(t *testing.T) {
	r := source(22)
	d := made(t, mostSectors)
	j := appended(t, opened(t, d), someBytes(r, 2000*room+1), nil, someBytes(r, 2094*room))
	if len(j.Records) != 3 || journal.Room(j) != 0 {
		t.Fatal(journal.Room(j))
	}
	_, y, e := syncs(t, j, d)
	if e != api.OK {
		t.Error(e)
	}
	opens(t, y, j.Records)
	_, y, e = syncs(t, j, limited(t, d, 4095))
	if e != api.ErrDisk {
		t.Error(e)
	}
	opens(t, disk.Restart(y), j.Records[:2])
	_, y, e = syncs(t, j, limited(t, d, 4096))
	if e != api.OK || y.Left != 0 {
		t.Error(e, y.Left)
	}
}

// P8.3: without records that are not synced, nothing is written, however many writes are left.
func TestSyncWithoutRecords(t *testing.T) {
	for _, l := range [][][]byte{nil, {nil}, text("abc"), text("abc", "def")} {
		j, d := filledDisk(t, 4, l...)
		for _, left := range []int{-1, 0, 1, 65536} {
			d.Left = left
			x, y, e := syncs(t, j, d)
			if e != api.OK || !equal(x, j) || !equalDisks(y, d) {
				t.Error(len(l), left, e)
			}
		}
	}
}

// P8.3: the disk keeps the number of writes that are left to it, and stops when it is used up.
func TestSyncStops(t *testing.T) {
	j, d := filledDisk(t, 8, []byte("abc"))
	j = appended(t, j, filled(1, room+1), nil, filled(2, 3*room))
	for left := range 9 {
		x, y, e := syncs(t, j, limited(t, d, left))
		if left < 6 && (e != api.ErrDisk || !y.Stopped || y.Left != 0 || len(y.Pending) > 0 || !isZero(x)) {
			t.Error(left, x, y.Left, e)
		}
		if left >= 6 && (e != api.OK || y.Stopped || y.Left != left-6 || len(y.Pending) > 0 || x.Synced != 4) {
			t.Error(left, x, y.Left, e)
		}
	}
}

// errorOf is the definition of the error with which Sync refuses its arguments.
func errorOf(j api.Journal, d api.Disk) api.Errno {
	switch {
	case checkOf(j) != api.OK:
		return api.ErrArg
	case disk.Check(d) != api.OK || d.Stopped:
		return api.ErrDisk
	case j.Many != len(d.Sectors) || len(d.Pending) > 0:
		return api.ErrArg
	case !equalLists(recordsOf(d.Sectors), j.Records[:j.Synced]) || generationOf(d) > lastNumber:
		return api.ErrLog
	}
	return api.OK
}

// P8.3: the journal is checked first, then the disk, then whether they belong together, then the records.
func TestSyncReturnsErrorsInOrder(t *testing.T) {
	j, d := filledDisk(t, 3, []byte("abc"))
	j = appended(t, j, []byte("x"))
	journals := []api.Journal{
		j,
		{Records: text("abd", "x"), Many: 3, Synced: 1},
		{Records: j.Records, Many: 2, Synced: 1},
		{Records: j.Records, Many: 4, Synced: 1},
		{Records: j.Records, Many: 1, Synced: 1},
		{Records: j.Records, Many: 3, Synced: 3},
		{Records: j.Records, Many: 3, Synced: -1},
		{},
	}
	last := d
	last.Sectors = append(slices.Clone(d.Sectors[:2]), filled(255, size))
	waiting := d
	waiting.Pending = []api.Write{{At: 2, Data: filled(1, size)}}
	waitingLast := last
	waitingLast.Pending = waiting.Pending
	seen := map[api.Errno]int{}
	for _, j := range journals {
		for _, d := range append(invalid(), d, last, waiting, waitingLast) {
			for _, stopped := range []bool{false, true} {
				d.Stopped = stopped
				want := errorOf(j, d)
				seen[want]++
				if want == api.OK {
					syncs(t, j, d)
				} else {
					noSync(t, j, d, want)
				}
			}
		}
	}
	if seen[api.OK] != 1 || seen[api.ErrLog] != 3 {
		t.Error(seen)
	}
}

// P8.3: the records on the disk must be the first ones of the journal, as many as are synced.
func TestSyncComparesRecords(t *testing.T) {
	r := source(23)
	lists := [][][]byte{nil, text(""), text("a"), text("b"), text("a", ""), text("", "a"), text("a", "b"), text("ab"), text("a", "b", "c"),
		{filled(1, room)}, {filled(1, room+1)}, {filled(1, room), {1}}, {append(filled(1, room), 2)}, {someBytes(r, 300), nil}}
	refused := 0
	for _, onDisk := range lists {
		_, d := filledDisk(t, 9, onDisk...)
		for _, l := range lists {
			for synced := range len(l) + 1 {
				for _, more := range [][][]byte{nil, text("x")} {
					j := api.Journal{Records: slices.Concat(l, more), Many: 9, Synced: synced}
					if equalLists(l[:synced], onDisk) {
						syncs(t, j, d)
					} else {
						noSync(t, j, d, api.ErrLog)
						refused++
					}
				}
			}
		}
	}
	if refused < 500 {
		t.Error(refused)
	}
}

// P8.3: as many sectors as the journal says, and no pending writes.
func TestSyncComparesDisks(t *testing.T) {
	for many := 1; many < 6; many++ {
		for sectors := 1; sectors < 6; sectors++ {
			j := journalOf(many, 0, 1)
			d := made(t, sectors)
			if many != sectors {
				noSync(t, j, d, api.ErrArg)
				continue
			}
			syncs(t, j, d)
			for at := range sectors {
				x, e := disk.Write(d, at, nil)
				if e != api.OK {
					t.Fatal(e)
				}
				noSync(t, j, x, api.ErrArg)
			}
		}
	}
}

// P8.3: the generation is greater than the numbers at both ends of all sectors, also of those after the records.
func TestSyncFindsTheGeneration(t *testing.T) {
	numbers := []uint32{0, 1, 2, 127, 128, 255, 256, 65535, 65536, 1<<24 - 1, 1 << 24, 1<<31 - 1, 1 << 31, lastNumber - 2, lastNumber - 1, lastNumber}
	for at := 1; at < 4; at++ {
		for _, n := range numbers {
			for _, again := range []uint32{0, n, n / 2, lastNumber - 1} {
				j, d := filledDisk(t, 4, []byte("abc"))
				d.Sectors[at] = build(parts{generation: n, again: again, number: uint16(at), data: filled(255, room)})
				copyOfAll := copied(d)
				copyOfAll.Sectors[at] = build(parts{generation: again, again: n, number: uint16(at), data: filled(255, room)})
				more := appended(t, j, []byte("x"))
				if n == lastNumber || again == lastNumber {
					noSync(t, more, d, api.ErrLog)
					noSync(t, more, copyOfAll, api.ErrLog)
				} else {
					syncs(t, more, d)
					syncs(t, more, copyOfAll)
				}
			}
		}
	}
}

// P8.3: the last generation cannot be followed by another one, whether or not there is anything to write.
func TestSyncAfterTheLastGeneration(t *testing.T) {
	for _, g := range []int{lastNumber - 2, lastNumber - 1, lastNumber} {
		for n := 1; n < 4; n++ {
			var sectors, records [][]byte
			for at := range n {
				records = append(records, filled(byte(at), at))
				sectors = append(sectors, sectorOf(g, at, 3, records[at]))
			}
			d := diskOf(append(sectors, make([]byte, size))...)
			j := opened(t, d)
			if len(j.Records) != n {
				t.Fatal(j)
			}
			more := appended(t, j, []byte("x"))
			if g == lastNumber {
				noSync(t, j, d, api.ErrLog)
				noSync(t, more, d, api.ErrLog)
			} else {
				syncs(t, j, d)
				_, y, _ := syncs(t, more, d)
				opens(t, y, append(records, []byte("x")))
			}
		}
	}
}

// P8.3: the generation is greater than that of a record, of what is left over from longer ones, and of a torn sector.
func TestSyncCountsGenerations(t *testing.T) {
	d := made(t, 5)
	j := opened(t, d)
	for g := 1; g <= 5; g++ {
		if n := generationOf(d); n != g {
			t.Error(g, n)
		}
		j, d, _ = syncs(t, appended(t, j, []byte{byte(g)}), d)
	}
	for at, s := range d.Sectors {
		if !slices.Equal(s, sectorOf(at+1, at, 3, []byte{byte(at + 1)})) {
			t.Error(at, s)
		}
	}
	d = made(t, 5)
	for g := range 10 {
		j = appended(t, opened(t, d), filled(byte(g), 2*room))
		_, y, e := syncs(t, j, limited(t, d, 0))
		if e != api.ErrDisk || generationOf(y) != g+2 {
			t.Error(g, e, generationOf(y))
		}
		d = disk.Restart(y)
	}
}

// P8.3
func TestSyncIsPure(t *testing.T) {
	r := source(24)
	for range 100 {
		j, d := filledDisk(t, 20, anyRecords(r, 8)...)
		j = appended(t, j, anyRecords(r, 8)...)
		for _, left := range []int{-1, 0, 1, 5} {
			d.Left = left
			unchanged(t, j, d, nil, func() {
				x, y, _ := syncs(t, j, d)
				unchanged(t, x, y, nil, func() {
					syncs(t, j, d)
					if !y.Stopped {
						syncs(t, appended(t, x, []byte("x")), y)
					}
				})
			})
		}
	}
}

// P8.3: numbers of the journal outside all limits.
func TestSyncRefusesJournals(t *testing.T) {
	_, d := filledDisk(t, 2, []byte("abc"))
	for _, n := range append(extremes(), 0, math.MaxInt32) {
		noSync(t, api.Journal{Records: text("abc"), Many: n, Synced: 1}, d, api.ErrArg)
		if n != 0 {
			noSync(t, api.Journal{Records: text("abc"), Many: 2, Synced: n}, d, api.ErrArg)
		}
	}
	noSync(t, api.Journal{Records: text("abc"), Many: 2}, d, api.ErrLog)
	noSync(t, journalOf(2, 0, 2*room+1), d, api.ErrArg)
}
