package journal_test

import (
	"bytes"
	"encoding/binary"
	"hash/crc32"
	"math"
	"math/rand/v2"
	"reflect"
	"slices"
	"testing"

	"gridwright/api"
	"gridwright/disk"
	"gridwright/journal"
)

const (
	mostSectors = 4096
	size        = 128
	room        = 112 // bytes of a record in a sector
	lastNumber  = math.MaxUint32
)

func source(seed uint64) *rand.Rand { return rand.New(rand.NewPCG(seed, 8)) }

// extremes are numbers that lie outside all limits.
func extremes() []int {
	return []int{math.MinInt, math.MinInt + 1, -1 << 32, -4097, -2, -1, 4097, 4098, 1 << 32, 1<<32 + 1, math.MaxInt - 1, math.MaxInt}
}

func someBytes(r *rand.Rand, n int) []byte {
	l := make([]byte, n)
	for i := range l {
		l[i] = byte(r.IntN(256))
	}
	return l
}

// filled returns n bytes that are all equal.
func filled(b byte, n int) []byte { return bytes.Repeat([]byte{b}, n) }

// text returns a list of records.
func text(l ...string) (records [][]byte) {
	for _, s := range l {
		records = append(records, []byte(s))
	}
	return records
}

// lengths of records, on both sides of what one, two and three sectors contain.
func lengths() []int { return []int{0, 1, 111, 112, 113, 223, 224, 225, 336, 337} }

// parts is what a sector consists of; build puts it together without any condition.
type parts struct {
	generation, again uint32
	number            uint16
	flags, count      byte
	data              []byte // up to 112 bytes; zero bytes follow
}

func build(p parts) []byte {
	s := make([]byte, size)
	binary.BigEndian.PutUint32(s[0:4], p.generation)
	binary.BigEndian.PutUint16(s[8:10], p.number)
	s[10], s[11] = p.flags, p.count
	copy(s[12:124], p.data)
	binary.BigEndian.PutUint32(s[124:128], p.again)
	return sealed(s)
}

// sealed sets the checksum of a sector.
func sealed(s []byte) []byte {
	binary.BigEndian.PutUint32(s[4:8], crc32.ChecksumIEEE(s[8:124]))
	return s
}

// sectorOf is the definition of a sector with data of a record.
func sectorOf(generation, number, flags int, data []byte) []byte {
	g := uint32(generation)
	return build(parts{generation: g, again: g, number: uint16(number), flags: byte(flags), count: byte(len(data)), data: data})
}

// sectorsOf is the definition of the sectors of a record that begins in the sector at.
func sectorsOf(generation, at int, b []byte) (l [][]byte) {
	if len(b) == 0 {
		return [][]byte{sectorOf(generation, at, 3, nil)}
	}
	for from := 0; from < len(b); from += room {
		to, flags := from+room, 0
		if from == 0 {
			flags = 1
		}
		if to >= len(b) {
			to, flags = len(b), flags+2
		}
		l = append(l, sectorOf(generation, at+len(l), flags, b[from:to]))
	}
	return l
}

// sectorsFor is the definition of how many sectors a record occupies.
func sectorsFor(b []byte) int {
	for n := 1; ; n++ {
		if len(b) <= n*room {
			return n
		}
	}
}

// isGood is the definition of a sector that is good for a number.
func isGood(s []byte, number int) bool {
	generation, count := binary.BigEndian.Uint32(s[0:4]), int(s[11])
	if generation == 0 || binary.BigEndian.Uint32(s[124:128]) != generation || binary.BigEndian.Uint32(s[4:8]) != crc32.ChecksumIEEE(s[8:124]) {
		return false
	}
	if int(s[8])*256+int(s[9]) != number || s[10] > 3 || count > room {
		return false
	}
	for _, b := range s[12+count : 124] {
		if b != 0 {
			return false
		}
	}
	beginsHere, endsHere := s[10]&1 == 1, s[10]&2 == 2
	return (endsHere || count == 112) && (beginsHere || count >= 1)
}

// continues is the definition of a good sector that continues another good one.
func continues(s, before []byte) bool {
	number, numberBefore := binary.BigEndian.Uint16(s[8:10]), binary.BigEndian.Uint16(before[8:10])
	return bytes.Equal(s[:4], before[:4]) && number == numberBefore+1 && before[10]&2 == 0 && s[10]&1 == 0
}

// recordsOf is the definition of the records on a disk.
func recordsOf(sectors [][]byte) (l [][]byte) {
	good := func(at int) bool { return at < len(sectors) && isGood(sectors[at], at) }
	var before []byte // the generation of the last record
	at := 0
	for good(at) && sectors[at][10]&1 == 1 && bytes.Compare(sectors[at][:4], before) >= 0 {
		last := at
		for sectors[last][10]&2 == 0 {
			if !good(last+1) || !continues(sectors[last+1], sectors[last]) {
				return l
			}
			last++
		}
		record := []byte{}
		for _, s := range sectors[at : last+1] {
			record = append(record, s[12:12+int(s[11])]...)
		}
		l = append(l, record)
		before = sectors[at][:4]
		at = last + 1
	}
	return l
}

// generationOf is the definition of the next generation of a disk.
func generationOf(d api.Disk) (g int) {
	for _, s := range d.Sectors {
		g = max(g, int(binary.BigEndian.Uint32(s[:4])), int(binary.BigEndian.Uint32(s[124:])))
	}
	return g + 1
}

// checkOf is the definition of Check.
func checkOf(j api.Journal) api.Errno {
	n := 0
	for _, b := range j.Records {
		n += sectorsFor(b)
	}
	if j.Many >= 1 && j.Many <= mostSectors && j.Synced >= 0 && j.Synced <= len(j.Records) && n <= j.Many {
		return api.OK
	}
	return api.ErrArg
}

// syncOf is the definition of Sync of arguments that it does not refuse.
func syncOf(j api.Journal, d api.Disk) (api.Journal, api.Disk, api.Errno) {
	if j.Synced == len(j.Records) {
		return j, d, api.OK
	}
	at, g, y := 0, generationOf(d), copied(d)
	for i, b := range j.Records {
		for _, s := range sectorsOf(g, at, b) {
			if i >= j.Synced {
				if y.Left == 0 {
					copy(y.Sectors[at][:64], s)
					y.Stopped = true
					return api.Journal{}, y, api.ErrDisk
				}
				y.Sectors[at] = s
				y.Left = max(-1, y.Left-1)
			}
			at++
		}
	}
	return api.Journal{Records: j.Records, Many: j.Many, Synced: len(j.Records)}, y, api.OK
}

// copied returns a disk that has no memory in common with d.
func copied(d api.Disk) api.Disk {
	d.Sectors, d.Pending = copiedList(d.Sectors), slices.Clone(d.Pending)
	for i := range d.Pending {
		d.Pending[i].Data = bytes.Clone(d.Pending[i].Data)
	}
	return d
}

func copiedList(l [][]byte) [][]byte {
	l = slices.Clone(l)
	for i := range l {
		l[i] = bytes.Clone(l[i])
	}
	return l
}

func equalLists(l, other [][]byte) bool { return slices.EqualFunc(l, other, bytes.Equal) }

// equalDisks takes nil for an empty slice.
func equalDisks(d, x api.Disk) bool {
	return d.Left == x.Left && d.Stopped == x.Stopped && equalLists(d.Sectors, x.Sectors) &&
		slices.EqualFunc(d.Pending, x.Pending, func(a, b api.Write) bool { return a.At == b.At && bytes.Equal(a.Data, b.Data) })
}

// equal takes nil for an empty slice.
func equal(j, x api.Journal) bool {
	return j.Many == x.Many && j.Synced == x.Synced && equalLists(j.Records, x.Records)
}

func isZero(j api.Journal) bool { return equal(j, api.Journal{}) }

func isZeroDisk(d api.Disk) bool { return equalDisks(d, api.Disk{}) }

// diskOf returns a disk with these sectors.
func diskOf(sectors ...[]byte) api.Disk { return api.Disk{Sectors: sectors, Left: -1} }

// made returns a new disk, which must be possible.
func made(t *testing.T, sectors int) api.Disk {
	t.Helper()
	d, e := disk.New(sectors)
	if e != api.OK {
		t.Fatal("New:", sectors, e)
	}
	return d
}

// limited returns a disk to which a number of writes is left.
func limited(t *testing.T, d api.Disk, left int) api.Disk {
	t.Helper()
	x, e := disk.Stop(d, left)
	if e != api.OK {
		t.Fatal("Stop:", left, e)
	}
	return x
}

// opened returns the journal on a disk, which must be possible.
func opened(t *testing.T, d api.Disk) api.Journal {
	t.Helper()
	j, e := journal.Open(d)
	if e != api.OK {
		t.Fatal("Open:", e)
	}
	return j
}

// opens fails unless Open returns exactly these records.
func opens(t *testing.T, d api.Disk, records [][]byte) {
	t.Helper()
	j, e := journal.Open(d)
	if e != api.OK || !equal(j, api.Journal{Records: records, Many: len(d.Sectors), Synced: len(records)}) {
		t.Errorf("Open of %d sectors: %d, %d records instead of %d: %q, %q", len(d.Sectors), e, len(j.Records), len(records), j.Records, records)
	}
}

// noOpen fails unless Open refuses a disk, without a result.
func noOpen(t *testing.T, d api.Disk, want api.Errno) {
	t.Helper()
	if j, e := journal.Open(d); e != want || !isZero(j) {
		t.Error("Open:", len(d.Sectors), j, e, want)
	}
}

// appended returns a journal with further records, which must be possible.
func appended(t *testing.T, j api.Journal, l ...[]byte) api.Journal {
	t.Helper()
	for _, b := range l {
		x, e := journal.Append(j, b)
		if e != api.OK {
			t.Fatal("Append:", j.Many, len(b), e)
		}
		j = x
	}
	return j
}

// noAppend fails unless Append refuses its arguments, without a result.
func noAppend(t *testing.T, j api.Journal, b []byte, want api.Errno) {
	t.Helper()
	if x, e := journal.Append(j, b); e != want || !isZero(x) {
		t.Error("Append:", j.Many, len(b), e, want)
	}
}

// synced returns a journal and a disk after a sync that does not stop the disk.
func synced(t *testing.T, j api.Journal, d api.Disk) (api.Journal, api.Disk) {
	t.Helper()
	x, y, e := journal.Sync(j, d)
	if e != api.OK {
		t.Fatal("Sync:", j, d.Left, e)
	}
	return x, y
}

// filledDisk returns a journal and a disk with these records.
func filledDisk(t *testing.T, sectors int, l ...[]byte) (api.Journal, api.Disk) {
	t.Helper()
	d := made(t, sectors)
	return synced(t, appended(t, opened(t, d), l...), d)
}

// syncs fails unless Sync does what its definition says, and returns its results.
func syncs(t *testing.T, j api.Journal, d api.Disk) (api.Journal, api.Disk, api.Errno) {
	t.Helper()
	wantJournal, wantDisk, want := syncOf(j, d)
	x, y, e := journal.Sync(j, d)
	if e != want || !equal(x, wantJournal) || !equalDisks(y, wantDisk) {
		t.Error("Sync:", j, d, x, wantJournal, y, wantDisk, e, want)
	}
	return x, y, e
}

// noSync fails unless Sync refuses its arguments, without a result.
func noSync(t *testing.T, j api.Journal, d api.Disk, want api.Errno) {
	t.Helper()
	if x, y, e := journal.Sync(j, d); e != want || !isZero(x) || !isZeroDisk(y) {
		t.Error("Sync:", j.Many, j.Synced, len(j.Records), len(d.Sectors), e, want)
	}
}

// unchanged fails if do modifies a journal, a disk or bytes.
func unchanged(t *testing.T, j api.Journal, d api.Disk, b []byte, do func()) {
	t.Helper()
	before, diskBefore, bytesBefore := j, copied(d), bytes.Clone(b)
	before.Records = copiedList(j.Records)
	do()
	if !reflect.DeepEqual(j, before) || !reflect.DeepEqual(d, diskBefore) || !bytes.Equal(b, bytesBefore) {
		t.Error("the arguments change:", j, d, b)
	}
}

// invalid returns disks that are not valid, each for one reason, and each otherwise like a disk with one record.
func invalid() (l []api.Disk) {
	add := func(change func(d *api.Disk)) {
		d := diskOf(sectorOf(1, 0, 3, []byte("abc")), make([]byte, size))
		change(&d)
		l = append(l, d)
	}
	add(func(d *api.Disk) { d.Sectors = nil })
	add(func(d *api.Disk) { d.Sectors = slices.Repeat(d.Sectors, mostSectors/2+1) })
	for _, n := range []int{0, 1, 127, 129} {
		add(func(d *api.Disk) { d.Sectors[0] = make([]byte, n) })
		add(func(d *api.Disk) { d.Sectors[1] = make([]byte, n) })
		add(func(d *api.Disk) { d.Pending = []api.Write{{At: 1, Data: make([]byte, n)}} })
	}
	for _, at := range []int{math.MinInt, -1, 2, math.MaxInt} {
		add(func(d *api.Disk) { d.Pending = []api.Write{{At: at, Data: make([]byte, size)}} })
	}
	for _, left := range []int{math.MinInt, -2, 65537, math.MaxInt} {
		add(func(d *api.Disk) { d.Left = left })
	}
	return append(l, api.Disk{}, api.Disk{Left: -1})
}
