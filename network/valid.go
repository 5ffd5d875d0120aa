package network

import "gridwright/api"

// maxData is the greatest number of bytes of a packet, which is no limit of package api.
const maxData = 1 << 20

func isParty(n int) bool {
	return 0 <= n && n < api.MaxNodes
}

// canTalk reports whether there is a link between two numbers.
func canTalk(a, b int) bool {
	return isParty(a) && isParty(b) && a != b
}

func isPacket(p api.Packet) bool {
	return canTalk(p.From, p.To) && len(p.Data) <= maxData
}

func arePackets(l []api.Packet) bool {
	for _, p := range l {
		if !isPacket(p) {
			return false
		}
	}
	return true
}

// areCuts reports whether a list can be that of the pairs whose link is cut.
func areCuts(l [][2]int) bool {
	for i, pair := range l {
		if !canTalk(pair[0], pair[1]) || pair != between(pair[0], pair[1]) {
			return false
		}
		if i > 0 && inOrder(l[i-1], pair) >= 0 {
			return false
		}
	}
	return true
}

// holds returns the error with which a packet that is to be delivered, lost or repeated is refused.
func holds(n api.Net, at int) api.Errno {
	if e := Check(n); e != api.OK {
		return e
	}
	if at < 0 || at >= len(n.Queue) {
		return api.ErrArg
	}
	return api.OK
}
