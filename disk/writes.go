package disk

import (
	"slices"

	"gridwright/api"
)

// sector returns a new sector that begins with b.
func sector(b []byte) []byte {
	x := make([]byte, api.SectorSize)
	copy(x, b)
	return x
}

// performed returns a disk after its first n pending writes, without the other ones.
func performed(d api.Disk, n int) api.Disk {
	// The list of sectors is cloned, because d keeps its own one.
	sectors := slices.Clone(d.Sectors)
	for _, w := range d.Pending[:n:n] {
		sectors[w.At] = sector(w.Data)
	}
	d.Sectors, d.Pending = sectors, nil
	return d
}

// stopped returns a disk that has performed as many writes as were left, and tears the next one.
func stopped(d api.Disk) api.Disk {
	x := performed(d, d.Left)
	w := d.Pending[d.Left]
	x.Sectors[w.At] = torn(x.Sectors[w.At], w.Data)
	x.Left, x.Stopped = 0, true
	return x
}

// torn returns a sector of which only the first half was overwritten.
func torn(old, b []byte) []byte {
	x := sector(old)
	copy(x[:api.SectorSize/2], b)
	return x
}
