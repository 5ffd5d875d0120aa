package disk_test

import (
	"testing"

	"gridwright/api"
	"gridwright/disk"
)

// P7.3: all writes to up to three sectors, with all numbers of writes that are left.
func TestSync(t *testing.T) {
	r := source(40)
	for sectors := 1; sectors <= 3; sectors++ {
		for writes, choices := 0, 1; writes <= 4; writes, choices = writes+1, choices*sectors {
			for choice := range choices {
				d := pending(r, some(r, sectors), writes)
				for i := range d.Pending {
					d.Pending[i].At = choice % sectors
					choice /= sectors
				}
				for left := -1; left <= 6; left++ {
					d.Left = left
					unchanged(t, d, nil, func() { syncs(t, d) })
				}
			}
		}
	}
}

// P7.3
func TestSyncOfManyWrites(t *testing.T) {
	r := source(41)
	for _, sectors := range []int{1, 100, mostSectors} {
		d := pending(r, some(r, sectors), mostPending)
		for _, left := range []int{-1, 0, 1, 2047, 4095, 4096, 4097, 65536} {
			d.Left = left
			unchanged(t, d, nil, func() { syncs(t, d) })
		}
	}
}

// P7.3: the writes that are left are counted over several syncs.
func TestSyncCountsWrites(t *testing.T) {
	d := limited(t, made(t, 4), 3)
	d = synced(t, d)
	if d.Left != 3 {
		t.Error(d.Left)
	}
	d = synced(t, written(t, written(t, d, 0, filled(1)), 1, filled(2)))
	if d.Left != 1 || len(d.Pending) != 0 {
		t.Error(d.Left, d.Pending)
	}
	d = synced(t, written(t, d, 2, filled(3)))
	if d.Left != 0 || d.Stopped {
		t.Error(d.Left, d.Stopped)
	}
	d = synced(t, d) // nothing is to be written, so that the disk goes on
	if d.Left != 0 || d.Stopped {
		t.Error(d.Left, d.Stopped)
	}
	x := crashed(t, written(t, d, 3, filled(4)))
	want := [][]byte{filled(1), filled(2), filled(3), append(filled(4)[:64], make([]byte, 64)...)}
	if !equal(x, api.Disk{Sectors: want, Stopped: true}) {
		t.Error(x)
	}
}

// P7.3: the example of the chapter.
func TestSyncStops(t *testing.T) {
	d := limited(t, made(t, 3), 1)
	d = written(t, written(t, d, 2, filled(7)), 0, filled(8))
	x, e := disk.Sync(d)
	want := [][]byte{append(filled(8)[:64], make([]byte, 64)...), make([]byte, size), filled(7)}
	if e != api.ErrDisk || !equal(x, api.Disk{Sectors: want, Stopped: true}) {
		t.Error(x, e)
	}
}

// P7.3: the torn sector keeps the second half of what an earlier write of the same sync wrote.
func TestTornSectorOfTwoWrites(t *testing.T) {
	d := limited(t, made(t, 1), 1)
	d = written(t, written(t, written(t, d, 0, filled(1)), 0, filled(2)), 0, filled(3))
	x := crashed(t, d)
	if want := append(filled(2)[:64], filled(1)[64:]...); !equal(x, api.Disk{Sectors: [][]byte{want}, Stopped: true}) {
		t.Error(x)
	}
}

// P7.3
func TestSyncRefuses(t *testing.T) {
	r := source(42)
	for i, d := range invalid(r) {
		if x, e := disk.Sync(d); e != api.ErrDisk || !isZero(x) {
			t.Error(i, x, e)
		}
	}
	for writes := range 3 {
		for _, left := range []int{-1, 0, 1, 65536} {
			d := pending(r, some(r, 2), writes)
			d.Left, d.Stopped = left, true
			noSync(t, d)
		}
	}
}

// P7.3
func TestStop(t *testing.T) {
	r := source(43)
	for _, before := range []int{-1, 0, 5, 65536} {
		for _, left := range []int{0, 1, 2, 4096, 65535, 65536} {
			d := pending(r, some(r, 2), 2)
			d.Left = before
			want := copied(d)
			want.Left = left
			unchanged(t, d, nil, func() {
				if x, e := disk.Stop(d, left); e != api.OK || !equal(x, want) {
					t.Error(before, left, x, e)
				}
			})
		}
	}
}

// P7.3
func TestStopRefuses(t *testing.T) {
	r := source(44)
	for i, d := range invalid(r) {
		for _, left := range []int{0, -1, 65537} {
			if x, e := disk.Stop(d, left); e != api.ErrDisk || !isZero(x) {
				t.Error(i, x, e)
			}
		}
	}
	d := pending(r, some(r, 2), 2)
	for _, left := range append(extremes(), -2, -1, 65537, 65538) {
		noStop(t, d, left, api.ErrArg)
	}
	d.Stopped = true
	for _, left := range append(extremes(), -1, 0, 1, 65536, 65537) {
		noStop(t, d, left, api.ErrDisk)
	}
}
