package disk_test

import (
	"math"
	"testing"

	"gridwright/api"
	"gridwright/disk"
)

// P7.2
func TestReadWithoutPending(t *testing.T) {
	r := source(20)
	for _, n := range []int{1, 2, 7, 4096} {
		d := some(r, n)
		for _, at := range []int{0, n / 2, n - 1} {
			reads(t, d, at, d.Sectors[at])
		}
	}
}

// P7.2: the last write to the sector counts, whatever is written to others.
func TestReadFindsTheLastWrite(t *testing.T) {
	r := source(21)
	for range 500 {
		n := 1 + r.IntN(4)
		d := pending(r, some(r, n), r.IntN(8))
		for at := range n {
			reads(t, d, at, readOf(d, at))
		}
	}
	d := pending(r, some(r, mostSectors), mostPending)
	for at := 0; at < mostSectors; at += 64 {
		reads(t, d, at, readOf(d, at))
	}
}

// P7.2: what is left to the disk does not matter before it stops.
func TestReadIgnoresLeft(t *testing.T) {
	r := source(22)
	for _, left := range []int{-1, 0, 1, 65536} {
		d := pending(r, some(r, 2), 3)
		d.Left = left
		for at := range 2 {
			reads(t, d, at, readOf(d, at))
		}
	}
}

// P7.2
func TestReadRefuses(t *testing.T) {
	r := source(23)
	for i, d := range invalid(r) {
		if x, e := disk.Read(d, 0); e != api.ErrDisk || len(x) > 0 {
			t.Error(i, x, e)
		}
	}
	for _, n := range []int{1, 2, 4096} {
		d := some(r, n)
		for _, at := range append(extremes(), -2, -1, n, n+1) {
			noRead(t, d, at)
		}
		d.Stopped = true
		for _, at := range []int{0, n - 1, n, -1} {
			noRead(t, d, at)
		}
	}
	noRead(t, made(t, 1), 1)
}

// P7.2
func TestWrite(t *testing.T) {
	r := source(24)
	for _, length := range []int{0, 1, 63, 64, 65, 127, 128} {
		for writes := range 3 {
			for at := range 3 {
				d := pending(r, some(r, 3), writes)
				b := someBytes(r, length)
				unchanged(t, d, b, func() {
					if x := written(t, d, at, b); !equal(x, writeOf(d, at, b)) {
						t.Error(length, writes, at, x)
					}
				})
			}
		}
	}
	d := made(t, 1)
	if x := written(t, d, 0, nil); !equal(x, writeOf(d, 0, nil)) {
		t.Error(x)
	}
}

// P7.2: a write keeps what is left to the disk.
func TestWriteKeepsLeft(t *testing.T) {
	r := source(25)
	for _, left := range []int{-1, 0, 1, 65536} {
		d := some(r, 2)
		d.Left = left
		for range 3 {
			b := someBytes(r, 5)
			x := written(t, d, 1, b)
			if !equal(x, writeOf(d, 1, b)) || x.Left != left || x.Stopped {
				t.Error(left, x)
			}
			d = x
		}
	}
}

// P7.2
func TestWriteLimits(t *testing.T) {
	r := source(26)
	d := pending(r, some(r, 3), mostPending-1)
	b := someBytes(r, size)
	x := written(t, d, 2, b)
	if !equal(x, writeOf(d, 2, b)) {
		t.Error("the last write is lost")
	}
	reads(t, x, 2, b)
	noWrite(t, x, 0, b, api.ErrLimit)
	noWrite(t, x, 0, nil, api.ErrLimit)
}

// P7.2
func TestWriteRefuses(t *testing.T) {
	r := source(27)
	for i, d := range invalid(r) {
		if x, e := disk.Write(d, 0, nil); e != api.ErrDisk || !isZero(x) {
			t.Error(i, x, e)
		}
	}
	for _, n := range []int{1, 2, 4096} {
		d := some(r, n)
		for _, at := range append(extremes(), -2, -1, n, n+1) {
			noWrite(t, d, at, someBytes(r, size), api.ErrDisk)
		}
		for _, length := range []int{129, 130, 256, 1 << 16, 1 << 16 * 2} {
			noWrite(t, d, n-1, make([]byte, length), api.ErrArg)
		}
		d.Stopped = true
		noWrite(t, d, 0, nil, api.ErrDisk)
	}
}

// P7.2: an invalid or stopped disk comes first, then the sector, the bytes, and the limit.
func TestWriteErrorsInOrder(t *testing.T) {
	r := source(28)
	long := make([]byte, 129)
	full := pending(r, some(r, 2), mostPending)
	noWrite(t, full, 2, long, api.ErrDisk)
	noWrite(t, full, math.MinInt, nil, api.ErrDisk)
	noWrite(t, full, 1, long, api.ErrArg)
	noWrite(t, full, 1, nil, api.ErrLimit)
	full.Stopped = true
	noWrite(t, full, 1, long, api.ErrDisk)
	noWrite(t, full, 1, nil, api.ErrDisk)
	over := pending(r, some(r, 2), mostPending+1)
	noWrite(t, over, 1, long, api.ErrDisk)
	noWrite(t, over, 1, nil, api.ErrDisk)
}

// P7.2: what was written can be read at once, and what is read later does not change it.
func TestWriteAndRead(t *testing.T) {
	d := made(t, 2)
	d = written(t, d, 1, []byte{1, 2, 3})
	reads(t, d, 1, padded([]byte{1, 2, 3}))
	reads(t, d, 0, filled(0))
	x := written(t, d, 1, []byte{4})
	reads(t, x, 1, padded([]byte{4}))
	reads(t, d, 1, padded([]byte{1, 2, 3}))
}

// P7.2, P7.3: two disks that come from one do not share their pending writes.
func TestWritesOfTwoBranches(t *testing.T) {
	r := source(29)
	d := pending(r, some(r, 2), 3)
	d.Pending = append(make([]api.Write, 0, 100), d.Pending...)
	a := written(t, d, 0, filled(1))
	b := written(t, d, 0, filled(2))
	c := written(t, a, 1, filled(3))
	f := written(t, a, 1, filled(4))
	reads(t, a, 0, filled(1))
	reads(t, b, 0, filled(2))
	reads(t, c, 1, filled(3))
	reads(t, f, 1, filled(4))
	reads(t, synced(t, c), 1, filled(3))
	reads(t, synced(t, a), 0, filled(1))
	reads(t, synced(t, b), 0, filled(2))
	reads(t, d, 0, readOf(d, 0))
}
