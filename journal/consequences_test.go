package journal_test

import (
	"bytes"
	"slices"
	"testing"

	"gridwright/api"
	"gridwright/disk"
	"gridwright/journal"
)

// wholeAfter returns the beginning of records that occupies at most so many sectors.
func wholeAfter(l [][]byte, sectors int) [][]byte {
	for i, b := range l {
		if sectors -= sectorsFor(b); sectors < 0 {
			return l[:i]
		}
	}
	return l
}

// crash syncs a journal with a disk that stops after some writes, and checks which records are left on the restarted disk.
func crash(t *testing.T, j api.Journal, d api.Disk, left int) api.Disk {
	t.Helper()
	x, y, e := journal.Sync(j, limited(t, d, left))
	if e != api.ErrDisk || !isZero(x) {
		t.Fatal("the disk does not stop:", left, e)
	}
	noOpen(t, y, api.ErrDisk)
	noSync(t, j, y, api.ErrDisk)
	d = disk.Restart(y)
	opens(t, d, slices.Concat(j.Records[:j.Synced], wholeAfter(j.Records[j.Synced:], left)))
	return d
}

// written returns the number of sectors that Sync writes.
func written(j api.Journal) (n int) {
	for _, b := range j.Records[j.Synced:] {
		n += sectorsFor(b)
	}
	return n
}

// P8.4
func TestOpenReturnsWhatWasSynced(t *testing.T) {
	r := source(30)
	for range 300 {
		d := made(t, 1+r.IntN(40))
		j := opened(t, d)
		var want [][]byte
		for range 8 {
			l := anyRecords(r, min(8, journal.Room(j)/room))
			want = append(want, l...)
			j, d = synced(t, appended(t, j, l...), d)
			opens(t, d, want)
			opens(t, disk.Restart(d), want)
			if r.IntN(2) == 0 {
				j = opened(t, d)
			}
		}
	}
}

// P8.4: records that are synced one by one or together are the same ones.
func TestSyncOneByOneOrTogether(t *testing.T) {
	r := source(31)
	for range 200 {
		l := anyRecords(r, 12)
		_, together := filledDisk(t, 12, l...)
		d := made(t, 12)
		j := opened(t, d)
		for _, b := range l {
			j, d = synced(t, appended(t, j, b), d)
		}
		opens(t, d, l)
		opens(t, together, l)
	}
}

// batches returns lists of records with different contents.
func batches(mark byte) (l [][][]byte) {
	for _, lengths := range [][]int{{0}, {2*room + 1}, {5, room}, {room + 1, 0}, {0, 2 * room}, {1, room + 1, 2}} {
		var records [][]byte
		for i, n := range lengths {
			records = append(records, filled(mark+byte(i), n))
		}
		l = append(l, records)
	}
	return l
}

// P8.4: a crash after any number of writes, and further ones after it, each with other records; in the end a sync without crash.
func TestAnyNumberOfCrashes(t *testing.T) {
	count := 0
	var crashes func(d api.Disk, deep int)
	crashes = func(d api.Disk, deep int) {
		count++
		for _, l := range batches(byte(20 * (deep + 1))) {
			j := opened(t, d)
			if j = appended(t, j, l...); deep == 0 {
				_, y := synced(t, j, d)
				opens(t, y, j.Records)
				continue
			}
			for left := range written(j) {
				crashes(crash(t, j, d, left), deep-1)
			}
		}
	}
	_, d := filledDisk(t, 16, filled(1, room+1), filled(2, 3))
	crashes(d, 3)
	if count < 1000 {
		t.Error(count)
	}
}

// P8.4: many crashes and syncs, one after the other, on a disk that is filled little by little and never forgets.
func TestManyCrashes(t *testing.T) {
	r := source(32)
	for range 100 {
		d := made(t, 40)
		for range 60 {
			j := opened(t, d)
			more := appended(t, j, anyRecords(r, min(5, journal.Room(j)/room))...)
			if n := written(more); n > 0 && r.IntN(4) > 0 {
				d = crash(t, more, d, r.IntN(min(n, 3)))
				continue
			}
			_, d = synced(t, more, d)
			opens(t, d, more.Records)
		}
	}
}

// P8.4: a crash while the same records are written again leaves as many of them as were whole.
func TestCrashesOfTheSameRecords(t *testing.T) {
	l := [][]byte{filled(1, 2*room), nil, filled(2, room+5), filled(3, 9)}
	for first := range 6 {
		for second := range 6 {
			d := made(t, 6)
			for _, left := range []int{first, second} {
				j := opened(t, d)
				j = appended(t, j, l[j.Synced:]...)
				if left < written(j) {
					d = crash(t, j, d, left)
				} else {
					_, d = synced(t, j, limited(t, d, left))
					d = disk.Restart(d)
				}
			}
			j := opened(t, d)
			_, d = synced(t, appended(t, j, l[j.Synced:]...), d)
			opens(t, d, l)
		}
	}
}

// P8.4: sectors of the journal of any age do not come back, also if they are whole.
func TestOldRecordsDoNotComeBack(t *testing.T) {
	old := [][]byte{filled(1, 5), filled(2, room+1), filled(3, 6), filled(4, 7)}
	_, d := filledDisk(t, 8, old...)
	for at := range 5 {
		x := copied(d)
		x.Sectors[at][20] ^= 1
		j := opened(t, x)
		for _, b := range [][]byte{nil, filled(9, room), filled(9, room+1)} {
			more := appended(t, j, b)
			_, y := synced(t, more, x)
			opens(t, y, more.Records)
			for left := range sectorsFor(b) {
				crash(t, more, x, left)
			}
		}
	}
}

// P8.4: a changed byte of a sector leaves exactly the records in the sectors before it.
func TestAChangedByte(t *testing.T) {
	r := source(33)
	d := made(t, 12)
	j := opened(t, d)
	for _, l := range [][][]byte{{someBytes(r, 5), nil}, {someBytes(r, 3*room-1)}, {someBytes(r, room), someBytes(r, room+1)}, {nil}} {
		j, d = synced(t, appended(t, j, l...), d)
	}
	firstOf := 0
	for i, b := range j.Records {
		n := sectorsFor(b)
		for at := firstOf; at < firstOf+n; at++ {
			changeBytes(t, d, at, j.Records[:i])
		}
		firstOf += n
	}
	if firstOf != 9 {
		t.Error(firstOf)
	}
}

// changeBytes changes each byte of a sector in several ways, and checks which records are left.
func changeBytes(t *testing.T, d api.Disk, at int, want [][]byte) {
	t.Helper()
	x := d
	x.Sectors = slices.Clone(d.Sectors)
	for k, b := range d.Sectors[at] {
		for _, other := range []byte{0, 1, 2, 3, 112, 255, b + 1, b - 1, b ^ 1, b ^ 2, b ^ 64, b ^ 128, ^b} {
			if other == b {
				continue
			}
			x.Sectors[at] = bytes.Clone(d.Sectors[at])
			x.Sectors[at][k] = other
			opens(t, x, want)
			if k%16 == 0 {
				noSync(t, api.Journal{Records: append(slices.Clone(want), nil), Many: 12, Synced: len(want) + 1}, x, api.ErrLog)
			}
		}
	}
}

// P8.4: a changed byte of a sector after the records changes nothing, unless the sector becomes good.
func TestAChangedByteAfterTheRecords(t *testing.T) {
	j, d := filledDisk(t, 4, filled(1, room), nil)
	for at := 2; at < 4; at++ {
		for k := range size {
			x := copied(d)
			x.Sectors[at][k] = 255
			opens(t, x, j.Records)
		}
	}
}

// P8.1 to P8.4: the examples of the chapter.
func TestExamples(t *testing.T) {
	j := opened(t, made(t, 1))
	if n := journal.Room(j); n != room {
		t.Error(n)
	}
	noAppend(t, j, make([]byte, 113), api.ErrLimit)
	if e := journal.Check(api.Journal{}); e != api.ErrArg {
		t.Error(e)
	}
	d := limited(t, made(t, 1), 0)
	_, y, e := journal.Sync(appended(t, j, []byte("x")), d)
	if e != api.ErrDisk {
		t.Error(e)
	}
	noOpen(t, y, api.ErrDisk)
	opens(t, disk.Restart(y), nil)
}
