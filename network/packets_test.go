package network_test

import (
	"testing"

	"gridwright/api"
	"gridwright/network"
)

// P9.2: each packet of short queues, with all numbers of cuts.
func TestDeliver(t *testing.T) {
	r := source(20)
	open, closed := 0, 0
	for packets := 1; packets < 6; packets++ {
		for cuts := range 121 {
			n := roomy(some(r, packets, cuts))
			for at, want := range n.Queue {
				if isCut(n, want.From, want.To) {
					want = api.Packet{}
					closed++
				} else {
					open++
				}
				unchanged(t, n, func() {
					p, x := delivered(t, n, at)
					if !samePacket(p, want) {
						t.Error(packets, at, n.Apart, p, want)
					}
					is(t, x, withoutOf(n, at))
				})
			}
		}
	}
	if open < 500 || closed < 500 {
		t.Error(open, closed)
	}
}

// P9.2: a cut concerns the packets between two parties, in both directions, and no others.
func TestDeliverOverEachLink(t *testing.T) {
	for _, pair := range allPairs() {
		n := api.Net{Apart: [][2]int{pair}}
		for a := range parties {
			for b := range parties {
				if a == b {
					continue
				}
				want := api.Packet{From: a, To: b, Data: []byte("x")}
				n.Queue = []api.Packet{want}
				p, x := delivered(t, n, 0)
				is(t, x, api.Net{Apart: n.Apart})
				if min(a, b) == pair[0] && max(a, b) == pair[1] {
					want = api.Packet{}
				}
				if !samePacket(p, want) {
					t.Error(pair, a, b, p)
				}
			}
		}
	}
}

// P9.2: the zero packet of a cut link is not valid.
func TestZeroPacketIsNotValid(t *testing.T) {
	n := cut(t, sent(t, network.New(), api.Packet{From: 2, To: 1, Data: []byte("x")}), 1, 2, true)
	p, x := delivered(t, n, 0)
	if p.From != p.To || p.From != 0 || len(p.Data) != 0 {
		t.Error(p)
	}
	noSend(t, x, p, api.ErrNet)
}

// P9.2
func TestLose(t *testing.T) {
	r := source(21)
	for packets := 1; packets < 6; packets++ {
		for cuts := 0; cuts < 121; cuts += 5 {
			n := roomy(some(r, packets, cuts))
			for at := range packets {
				unchanged(t, n, func() { is(t, lost(t, n, at), withoutOf(n, at)) })
			}
		}
	}
}

// P9.2
func TestRepeat(t *testing.T) {
	r := source(22)
	for packets := 1; packets < 6; packets++ {
		for cuts := 0; cuts < 121; cuts += 5 {
			n := roomy(some(r, packets, cuts))
			for at, p := range n.Queue {
				unchanged(t, n, func() { is(t, repeated(t, n, at), withOf(n, p)) })
			}
		}
	}
}

// P9.2: a packet that is repeated is delivered twice.
func TestRepeatAndDeliver(t *testing.T) {
	r := source(23)
	for at := range 3 {
		n := some(r, 3, 0)
		want := n.Queue[at]
		p, x := delivered(t, repeated(t, n, at), at)
		q, y := delivered(t, x, 2)
		if !samePacket(p, want) || !samePacket(q, want) {
			t.Error(at, p, q, want)
		}
		is(t, y, withoutOf(n, at))
	}
}

// P9.2: of two equal packets, the one at the index is taken.
func TestEqualPackets(t *testing.T) {
	p, q := api.Packet{From: 1, To: 2, Data: []byte("a")}, api.Packet{From: 2, To: 1, Data: []byte("a")}
	n := api.Net{Queue: []api.Packet{p, q, p, q, p}}
	for at := range 5 {
		got, x := delivered(t, n, at)
		if !samePacket(got, n.Queue[at]) {
			t.Error(at, got)
		}
		is(t, x, withoutOf(n, at))
		is(t, lost(t, n, at), withoutOf(n, at))
	}
}

// P9.2: full queues, and the last packet that there is room for.
func TestFullQueues(t *testing.T) {
	r := source(24)
	n := some(r, most, 3)
	for _, at := range []int{0, 1, 2048, 4094, 4095} {
		_, x := delivered(t, n, at)
		is(t, x, withoutOf(n, at))
		y := lost(t, n, at)
		is(t, y, withoutOf(n, at))
		noRepeat(t, n, at, api.ErrLimit)
		at = min(at, most-2)
		is(t, repeated(t, y, at), withOf(y, y.Queue[at]))
	}
}

// refuses fails unless all three functions refuse their arguments, without a result.
func refuses(t *testing.T, n api.Net, at int, want api.Errno) {
	t.Helper()
	noDeliver(t, n, at, want)
	noLose(t, n, at, want)
	noRepeat(t, n, at, want)
}

// P9.2
func TestIndicesOfPackets(t *testing.T) {
	r := source(25)
	for _, packets := range []int{0, 1, 2, 5, most - 1, most} {
		n := some(r, packets, 2)
		for _, at := range append(extremes(), packets, packets+1) {
			refuses(t, n, at, api.ErrArg)
		}
		n = roomy(n)
		refuses(t, n, packets, api.ErrArg)
		refuses(t, n, -1, api.ErrArg)
	}
	refuses(t, network.New(), 0, api.ErrArg)
}

// P9.2: links that are not valid come first, then the index, then the limit.
func TestPacketErrorsInOrder(t *testing.T) {
	r := source(26)
	for _, n := range invalid() {
		for _, at := range []int{0, 1, 2, -1, len(n.Queue), most} {
			refuses(t, n, at, api.ErrNet)
		}
	}
	n := some(r, most, 0)
	noRepeat(t, n, most, api.ErrArg)
	noRepeat(t, n, -1, api.ErrArg)
	n.Queue[7].From = n.Queue[7].To
	noRepeat(t, n, 0, api.ErrNet)
	noRepeat(t, n, most, api.ErrNet)
}
