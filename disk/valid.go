package disk

import "gridwright/api"

// Limits that are none of package api.
const (
	maxPending = 4096
	maxLeft    = 1 << 16
	unlimited  = -1 // the number of writes that are left to a disk that does not stop
)

func isSize(sectors int) bool {
	return 1 <= sectors && sectors <= api.MaxDisk
}

func isLeft(left int) bool {
	return unlimited <= left && left <= maxLeft
}

func isRunning(d api.Disk) bool {
	return Check(d) == api.OK && !d.Stopped
}

func hasSector(d api.Disk, at int) bool {
	return 0 <= at && at < len(d.Sectors)
}

func isWhole(b []byte) bool {
	return len(b) == api.SectorSize
}

func allWhole(sectors [][]byte) bool {
	for _, b := range sectors {
		if !isWhole(b) {
			return false
		}
	}
	return true
}

// allFit reports whether each pending write has a sector.
func allFit(d api.Disk) bool {
	for _, w := range d.Pending {
		if !hasSector(d, w.At) || !isWhole(w.Data) {
			return false
		}
	}
	return true
}
