package disk_test

import (
	"bytes"
	"math/rand/v2"
	"testing"

	"gridwright/api"
	"gridwright/disk"
)

// play calls functions in any order, compares each with its definition, and returns the disks.
func play(t *testing.T, r *rand.Rand, sectors, calls int) (all []api.Disk) {
	t.Helper()
	d := made(t, sectors)
	for range calls {
		want, wanted, x, e := d, api.OK, d, api.OK
		switch r.IntN(8) {
		case 0:
			want, wanted = syncOf(d)
			if d.Stopped {
				want, wanted = api.Disk{}, api.ErrDisk
			}
			x, e = disk.Sync(d)
		case 1:
			if r.IntN(3) == 0 {
				left := r.IntN(6)
				want.Left = left
				if d.Stopped {
					want, wanted = api.Disk{}, api.ErrDisk
				}
				x, e = disk.Stop(d, left)
			}
		case 2:
			if d.Stopped {
				want = api.Disk{Sectors: d.Sectors, Left: -1}
				x = disk.Restart(d)
			}
		default:
			at, b := r.IntN(sectors), someBytes(r, r.IntN(size+1))
			want = writeOf(d, at, b)
			if d.Stopped {
				want, wanted = api.Disk{}, api.ErrDisk
			}
			x, e = disk.Write(d, at, b)
		}
		if e != wanted || !equal(x, want) {
			t.Fatal(d, x, want, e, wanted)
		}
		if len(x.Sectors) > 0 { // d has not stopped before
			d = x
			all = append(all, d)
		}
	}
	return all
}

// P7.1 to P7.3, P7.4: all disks that are returned for valid disks are valid, and later calls do not change them.
func TestDisksAreValidAndKept(t *testing.T) {
	r := source(60)
	for range 60 {
		var kept []api.Disk
		all := play(t, r, 1+r.IntN(4), 60)
		for _, d := range all {
			if e := disk.Check(d); e != api.OK || checkOf(d) != api.OK {
				t.Error(d, e)
			}
			kept = append(kept, copied(d))
		}
		for i, d := range all {
			disk.Sync(d)
			disk.Write(d, 0, filled(9))
			disk.Stop(d, 0)
			disk.Restart(d)
			if i > 0 {
				disk.Sync(all[i-1])
			}
		}
		for i, d := range all {
			if !equal(d, kept[i]) {
				t.Error(i, d, kept[i])
			}
		}
	}
}

// P7.4: reading returns what was written last, before and after a sync.
func TestReadingReturnsWhatWasWritten(t *testing.T) {
	r := source(61)
	for range 60 {
		n := 1 + r.IntN(5)
		d := made(t, n)
		last := make([][]byte, n)
		for at := range last {
			last[at] = make([]byte, size)
		}
		for range 40 {
			at, b := r.IntN(n), someBytes(r, r.IntN(size+1))
			d = written(t, d, at, b)
			last[at] = padded(b)
			for range 2 {
				for at := range last {
					reads(t, d, at, last[at])
				}
				if r.IntN(3) == 0 {
					d = synced(t, d)
				}
			}
		}
	}
}

// P7.4: a sync that stops performs a beginning of the writes and half of the next one; other sectors keep what was synced.
func TestSyncThatStopsKeepsTheRest(t *testing.T) {
	r := source(62)
	for range 300 {
		n, left := 2+r.IntN(6), r.IntN(6)
		before := synced(t, pending(r, made(t, n), 2*n))
		d := pending(r, limited(t, before, left), left+1+r.IntN(3))
		x := disk.Restart(crashed(t, d))
		beginning := before
		for _, w := range d.Pending[:left] {
			beginning = synced(t, written(t, beginning, w.At, w.Data))
		}
		next := d.Pending[left]
		touched := map[int]bool{}
		for _, w := range d.Pending[:left+1] {
			touched[w.At] = true
		}
		for at := range n {
			want := beginning.Sectors[at]
			if at == next.At {
				want = append(bytes.Clone(next.Data[:64]), want[64:]...)
			}
			reads(t, x, at, want)
			if !touched[at] {
				reads(t, x, at, before.Sectors[at])
			}
		}
	}
}

// P7.4: writes make the same disk, whether they are synced one by one, together, or in groups.
func TestSyncOneByOneOrTogether(t *testing.T) {
	r := source(63)
	for range 200 {
		n, writes := 1+r.IntN(5), r.IntN(12)
		d := some(r, n)
		if r.IntN(2) == 0 {
			d = limited(t, d, writes+r.IntN(3))
		}
		together, single, groups := d, d, d
		for range writes {
			at, b := r.IntN(n), someBytes(r, r.IntN(size+1))
			together = written(t, together, at, b)
			single = synced(t, written(t, single, at, b))
			groups = written(t, groups, at, b)
			if r.IntN(3) == 0 {
				groups = synced(t, groups)
			}
		}
		together, groups = synced(t, together), synced(t, groups)
		if !equal(together, single) || !equal(together, groups) {
			t.Error(n, writes, d.Left, together, single, groups)
		}
	}
}

// P7.4: as many writes as can be pending make the same disk one by one and together.
func TestMostWritesTogether(t *testing.T) {
	r := source(64)
	d := pending(r, made(t, 50), mostPending)
	single := made(t, 50)
	for _, w := range d.Pending {
		single = synced(t, written(t, single, w.At, w.Data))
	}
	noWrite(t, d, 0, nil, api.ErrLimit)
	if x := synced(t, d); !equal(x, single) {
		t.Error("one by one makes a difference")
	}
}

// P7.4: after several crashes, one after the other, each sector has what the definition says.
func TestSeveralCrashes(t *testing.T) {
	r := source(65)
	d := some(r, 4)
	for range 100 {
		left := r.IntN(5)
		d = pending(r, limited(t, d, left), left+1+r.IntN(4))
		want, _ := syncOf(d)
		x := crashed(t, d)
		if !equal(x, want) {
			t.Fatal(x, want)
		}
		noSync(t, x)
		noRead(t, x, 0)
		noWrite(t, x, 0, nil, api.ErrDisk)
		noStop(t, x, 1, api.ErrDisk)
		d = disk.Restart(x)
	}
}
