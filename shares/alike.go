package shares

import "gridwright/api"

// maxEpoch is the last epoch, which is no limit of package api.
const maxEpoch = 1 << 20

func isThreshold(threshold, many int) bool {
	return 1 <= threshold && threshold <= many && many <= api.MaxReferees
}

func isEpoch(epoch int) bool {
	return 0 <= epoch && epoch <= maxEpoch
}

func alike(l []api.Share) bool {
	if len(l) == 0 || !isThreshold(l[0].Threshold, l[0].Many) || len(l[0].Data) > api.MaxSecret {
		return false
	}
	before := 0
	for _, s := range l {
		if !sameNumbers(s, l[0]) || s.Index <= before || s.Index > s.Many {
			return false
		}
		before = s.Index
	}
	return true
}

func sameNumbers(s, other api.Share) bool {
	return s.Threshold == other.Threshold && s.Many == other.Many && len(s.Data) == len(other.Data)
}

// ofOneEpoch looks at shares that are alike, so that there is at least one.
func ofOneEpoch(l []api.Share) bool {
	for _, s := range l {
		if s.Epoch != l[0].Epoch {
			return false
		}
	}
	return isEpoch(l[0].Epoch)
}
