package network

import "gridwright/api"

// with returns links with a further packet, or the error that there is no room for it.
func with(n api.Net, p api.Packet) (x api.Net, e api.Errno) {
	many := len(n.Queue)
	if many == api.MaxPackets {
		return api.Net{}, api.ErrLimit
	}
	// The capacity is cut, because another packet may be added to the same queue as well.
	n.Queue = append(n.Queue[:many:many], p)
	return n, api.OK
}

// without returns links without a packet of the queue.
func without(n api.Net, at int) api.Net {
	n.Queue = append(n.Queue[:at:at], n.Queue[at+1:]...)
	return n
}
