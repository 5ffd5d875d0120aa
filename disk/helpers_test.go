package disk_test

import (
	"bytes"
	"math"
	"math/rand/v2"
	"reflect"
	"slices"
	"testing"

	"gridwright/api"
	"gridwright/disk"
)

const (
	mostSectors = 4096
	mostPending = 4096
	mostLeft    = 65536
	size        = 128
)

func source(seed uint64) *rand.Rand { return rand.New(rand.NewPCG(seed, 7)) }

// extremes are numbers that lie outside all limits.
func extremes() []int {
	return []int{math.MinInt, math.MinInt + 1, -1 << 32, -65537, -4097, -3, 65538, 1 << 32, 1<<32 + 1, math.MaxInt - 1, math.MaxInt}
}

func someBytes(r *rand.Rand, n int) []byte {
	l := make([]byte, n)
	for i := range l {
		l[i] = byte(r.IntN(256))
	}
	return l
}

// filled returns a sector whose bytes are all equal.
func filled(b byte) []byte { return bytes.Repeat([]byte{b}, size) }

// padded is the definition of what a write of b writes.
func padded(b []byte) []byte {
	x := slices.Clone(b)
	for len(x) < size {
		x = append(x, 0)
	}
	return x
}

// some returns a disk of sectors with any bytes, without pending writes.
func some(r *rand.Rand, sectors int) api.Disk {
	d := api.Disk{Left: -1}
	for range sectors {
		d.Sectors = append(d.Sectors, someBytes(r, size))
	}
	return d
}

// pending returns a disk with further pending writes of any bytes to any sectors.
func pending(r *rand.Rand, d api.Disk, n int) api.Disk {
	d.Pending = slices.Clone(d.Pending)
	for range n {
		d.Pending = append(d.Pending, api.Write{At: r.IntN(len(d.Sectors)), Data: someBytes(r, size)})
	}
	return d
}

// copied returns a disk that has no memory in common with d.
func copied(d api.Disk) api.Disk {
	d.Sectors, d.Pending = slices.Clone(d.Sectors), slices.Clone(d.Pending)
	for i := range d.Sectors {
		d.Sectors[i] = bytes.Clone(d.Sectors[i])
	}
	for i := range d.Pending {
		d.Pending[i].Data = bytes.Clone(d.Pending[i].Data)
	}
	return d
}

// equal takes nil for an empty slice.
func equal(d, x api.Disk) bool {
	return d.Left == x.Left && d.Stopped == x.Stopped && slices.EqualFunc(d.Sectors, x.Sectors, bytes.Equal) &&
		slices.EqualFunc(d.Pending, x.Pending, func(a, b api.Write) bool { return a.At == b.At && bytes.Equal(a.Data, b.Data) })
}

// isZero reports whether a disk is the zero disk.
func isZero(d api.Disk) bool { return equal(d, api.Disk{}) }

// checkOf is the definition of Check.
func checkOf(d api.Disk) api.Errno {
	if len(d.Sectors) < 1 || len(d.Sectors) > mostSectors || len(d.Pending) > mostPending {
		return api.ErrDisk
	}
	for _, s := range d.Sectors {
		if len(s) != size {
			return api.ErrDisk
		}
	}
	for _, w := range d.Pending {
		if w.At < 0 || w.At >= len(d.Sectors) || len(w.Data) != size {
			return api.ErrDisk
		}
	}
	if d.Left < -1 || d.Left > mostLeft {
		return api.ErrDisk
	}
	return api.OK
}

// readOf is the definition of Read without errors.
func readOf(d api.Disk, at int) []byte {
	b := d.Sectors[at]
	for _, w := range d.Pending {
		if w.At == at {
			b = w.Data
		}
	}
	return b
}

// writeOf is the definition of Write without errors.
func writeOf(d api.Disk, at int, b []byte) api.Disk {
	x := copied(d)
	x.Pending = append(x.Pending, api.Write{At: at, Data: padded(b)})
	return x
}

// syncOf is the definition of Sync of a disk that has not stopped.
func syncOf(d api.Disk) (api.Disk, api.Errno) {
	x := copied(d)
	x.Pending = nil
	for i, w := range d.Pending {
		if d.Left >= 0 && i == d.Left {
			for j := range 64 {
				x.Sectors[w.At][j] = w.Data[j]
			}
			x.Left, x.Stopped = 0, true
			return x, api.ErrDisk
		}
		for j := range size {
			x.Sectors[w.At][j] = w.Data[j]
		}
	}
	if d.Left >= 0 {
		x.Left = d.Left - len(d.Pending)
	}
	return x, api.OK
}

// made returns a new disk, which must be possible.
func made(t *testing.T, sectors int) api.Disk {
	t.Helper()
	d, e := disk.New(sectors)
	if e != api.OK {
		t.Fatal("New:", sectors, e)
	}
	return d
}

// written returns a disk with a further write, which must be possible.
func written(t *testing.T, d api.Disk, at int, b []byte) api.Disk {
	t.Helper()
	x, e := disk.Write(d, at, b)
	if e != api.OK {
		t.Fatal("Write:", at, b, e)
	}
	return x
}

// synced returns a disk after a sync that does not stop it.
func synced(t *testing.T, d api.Disk) api.Disk {
	t.Helper()
	x, e := disk.Sync(d)
	if e != api.OK {
		t.Fatal("Sync:", d.Left, len(d.Pending), e)
	}
	return x
}

// limited returns a disk to which a number of writes is left.
func limited(t *testing.T, d api.Disk, left int) api.Disk {
	t.Helper()
	x, e := disk.Stop(d, left)
	if e != api.OK {
		t.Fatal("Stop:", left, e)
	}
	return x
}

// crashed returns a disk after a sync that stops it.
func crashed(t *testing.T, d api.Disk) api.Disk {
	t.Helper()
	x, e := disk.Sync(d)
	if e != api.ErrDisk || !x.Stopped {
		t.Fatal("Sync does not stop the disk:", d.Left, len(d.Pending), e)
	}
	return x
}

// reads fails unless a sector is read as b.
func reads(t *testing.T, d api.Disk, at int, b []byte) {
	t.Helper()
	if x, e := disk.Read(d, at); e != api.OK || !bytes.Equal(x, b) {
		t.Error("Read:", at, x, b, e)
	}
}

// noRead fails unless Read returns ErrDisk, without a result.
func noRead(t *testing.T, d api.Disk, at int) {
	t.Helper()
	if x, e := disk.Read(d, at); e != api.ErrDisk || len(x) > 0 {
		t.Error("Read:", at, x, e)
	}
}

// noWrite fails unless Write refuses its arguments, without a result.
func noWrite(t *testing.T, d api.Disk, at int, b []byte, want api.Errno) {
	t.Helper()
	if x, e := disk.Write(d, at, b); e != want || !isZero(x) {
		t.Error("Write:", at, len(b), x, e, want)
	}
}

// syncs fails unless Sync does what its definition says.
func syncs(t *testing.T, d api.Disk) {
	t.Helper()
	want, wanted := syncOf(d)
	if x, e := disk.Sync(d); e != wanted || !equal(x, want) {
		t.Error("Sync:", d.Left, len(d.Pending), x, want, e, wanted)
	}
}

// noSync fails unless Sync refuses a disk, without a result.
func noSync(t *testing.T, d api.Disk) {
	t.Helper()
	if x, e := disk.Sync(d); e != api.ErrDisk || !isZero(x) {
		t.Error("Sync:", x, e)
	}
}

// noStop fails unless Stop refuses its arguments, without a result.
func noStop(t *testing.T, d api.Disk, left int, want api.Errno) {
	t.Helper()
	if x, e := disk.Stop(d, left); e != want || !isZero(x) {
		t.Error("Stop:", left, x, e, want)
	}
}

// unchanged fails if do modifies a disk or bytes.
func unchanged(t *testing.T, d api.Disk, b []byte, do func()) {
	t.Helper()
	before, bytesBefore := copied(d), bytes.Clone(b)
	do()
	if !reflect.DeepEqual(d, before) || !bytes.Equal(b, bytesBefore) {
		t.Error("the arguments change:", d, b)
	}
}

// invalid returns disks that are not valid, each for one reason.
func invalid(r *rand.Rand) (l []api.Disk) {
	add := func(change func(d *api.Disk)) {
		d := copied(pending(r, some(r, 3), 3))
		change(&d)
		l = append(l, d)
	}
	for _, n := range []int{0, 1, 127, 129, 256} {
		for i := range 3 {
			add(func(d *api.Disk) { d.Sectors[i] = make([]byte, n) })
			add(func(d *api.Disk) { d.Pending[i].Data = make([]byte, n) })
		}
	}
	for _, at := range append(extremes(), -1, 3, 4) {
		for i := range 3 {
			add(func(d *api.Disk) { d.Pending[i].At = at })
		}
	}
	for _, left := range append(extremes(), -2, mostLeft+1) {
		add(func(d *api.Disk) { d.Left = left })
	}
	add(func(d *api.Disk) { d.Sectors, d.Pending = nil, nil })
	add(func(d *api.Disk) { *d = some(r, mostSectors+1) })
	add(func(d *api.Disk) { *d = pending(r, *d, mostPending-2) })
	return append(l, api.Disk{}, api.Disk{Left: -1}, api.Disk{Sectors: [][]byte{}, Left: -1})
}
