package disk_test

import (
	"bytes"
	"testing"

	"gridwright/api"
	"gridwright/disk"
)

// P7.1
func TestNew(t *testing.T) {
	for _, n := range []int{1, 2, 3, 255, 256, 257, 4095, 4096} {
		d := made(t, n)
		if len(d.Sectors) != n || len(d.Pending) != 0 || d.Left != -1 || d.Stopped {
			t.Error(n, len(d.Sectors), d.Pending, d.Left, d.Stopped)
		}
		for at, s := range d.Sectors {
			if !bytes.Equal(s, make([]byte, size)) {
				t.Error(n, at, s)
			}
		}
		if e := disk.Check(d); e != api.OK {
			t.Error(n, e)
		}
	}
}

// P7.1
func TestNewRefusesNumbers(t *testing.T) {
	for _, n := range append(extremes(), -2, -1, 0, 4097, 4098, 65536) {
		if d, e := disk.New(n); e != api.ErrArg || !isZero(d) {
			t.Error(n, e)
		}
	}
}

// P7.1
func TestCheckAcceptsDisks(t *testing.T) {
	r := source(1)
	for _, sectors := range []int{1, 2, 4095, 4096} {
		for _, writes := range []int{0, 1, 4095, 4096} {
			d := pending(r, some(r, sectors), writes)
			for _, left := range []int{-1, 0, 1, 4096, 65535, 65536} {
				for _, stopped := range []bool{false, true} {
					d.Left, d.Stopped = left, stopped
					if e := disk.Check(d); e != api.OK {
						t.Error(sectors, writes, left, stopped, e)
					}
				}
			}
		}
	}
}

// P7.1
func TestCheckRefusesDisks(t *testing.T) {
	for i, d := range invalid(source(2)) {
		for _, stopped := range []bool{false, true} {
			d.Stopped = stopped
			if e := disk.Check(d); e != api.ErrDisk || checkOf(d) != api.ErrDisk {
				t.Error(i, stopped, e)
			}
		}
	}
}

// P7.1: the index of a sector is less than the number of sectors, and the first and the last one are sectors.
func TestCheckCountsSectors(t *testing.T) {
	r := source(3)
	for _, n := range []int{1, 2, 5, 4096} {
		d := some(r, n)
		for at := -2; at < n+2; at++ {
			d.Pending = []api.Write{{At: at, Data: someBytes(r, size)}}
			want := api.OK
			if at < 0 || at >= n {
				want = api.ErrDisk
			}
			if e := disk.Check(d); e != want {
				t.Error(n, at, e)
			}
		}
	}
}

// P7.1: the last of many sectors, or pending writes, can be the one that is wrong.
func TestCheckLooksAtAll(t *testing.T) {
	r := source(4)
	for _, wrong := range []int{0, 1, 2048, 4095} {
		d := pending(r, some(r, mostSectors), mostPending)
		d.Pending[wrong].Data = d.Pending[wrong].Data[:127]
		if e := disk.Check(d); e != api.ErrDisk {
			t.Error(wrong, e)
		}
		d = pending(r, some(r, mostSectors), mostPending)
		d.Sectors[wrong] = d.Sectors[wrong][:127]
		if e := disk.Check(d); e != api.ErrDisk {
			t.Error(wrong, e)
		}
	}
}

// P7.1
func TestRestart(t *testing.T) {
	r := source(5)
	for _, left := range []int{-1, 0, 1, 65536} {
		for _, stopped := range []bool{false, true} {
			for writes := range 3 {
				d := pending(r, some(r, 3), writes)
				d.Left, d.Stopped = left, stopped
				unchanged(t, d, nil, func() {
					if x := disk.Restart(d); !equal(x, api.Disk{Sectors: d.Sectors, Left: -1}) {
						t.Error(left, stopped, writes, x)
					}
				})
			}
		}
	}
}

// P7.1: also disks that are not valid are restarted.
func TestRestartAcceptsAllDisks(t *testing.T) {
	for i, d := range invalid(source(6)) {
		if x := disk.Restart(d); !equal(x, api.Disk{Sectors: d.Sectors, Left: -1}) {
			t.Error(i, x)
		}
	}
	if x := disk.Restart(api.Disk{}); len(x.Sectors) != 0 || len(x.Pending) != 0 || x.Left != -1 || x.Stopped {
		t.Error(x)
	}
}

// P7.1: writes that were not synced are lost.
func TestRestartLosesWrites(t *testing.T) {
	d := synced(t, written(t, made(t, 2), 0, filled(1)))
	d = disk.Restart(written(t, d, 0, filled(2)))
	reads(t, d, 0, filled(1))
	reads(t, synced(t, d), 0, filled(1))
}

// P7.1: a disk that has stopped can be used again.
func TestRestartAfterStop(t *testing.T) {
	d := crashed(t, written(t, limited(t, made(t, 2), 0), 1, filled(1)))
	noRead(t, d, 1)
	d = disk.Restart(d)
	reads(t, d, 1, append(filled(1)[:64], make([]byte, 64)...))
	reads(t, synced(t, written(t, d, 1, filled(2))), 1, filled(2))
}
