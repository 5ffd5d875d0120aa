package network_test

import (
	"testing"

	"gridwright/api"
	"gridwright/network"
)

// P9.3: all pairs, in both directions, with many lists of links that are already cut.
func TestCut(t *testing.T) {
	r := source(30)
	for _, cuts := range []int{0, 1, 2, 3, 60, 118, 119, 120} {
		n := roomy(some(r, 3, cuts))
		for a := range parties {
			for b := range parties {
				if a == b {
					noCut(t, n, a, b, api.ErrArg)
					continue
				}
				for _, on := range []bool{false, true} {
					unchanged(t, n, func() { is(t, cut(t, n, a, b, on), cutOf(n, a, b, on)) })
				}
			}
		}
	}
}

// P9.3: each link is cut, in any order, and mended, in another one.
func TestCutAllLinks(t *testing.T) {
	r := source(31)
	all := allPairs()
	for range 20 {
		n, want := network.New(), network.New()
		for _, on := range []bool{true, false} {
			for _, i := range r.Perm(len(all)) {
				a, b := all[i][0], all[i][1]
				if r.IntN(2) == 0 {
					a, b = b, a
				}
				n, want = cut(t, n, a, b, on), cutOf(want, a, b, on)
				is(t, n, want)
			}
			if on && len(n.Apart) != 120 || !on && len(n.Apart) != 0 {
				t.Error(on, n.Apart)
			}
		}
	}
}

// P9.3: cutting a link twice is cutting it once, mending it twice is mending it once, and the last call counts.
func TestCutTwice(t *testing.T) {
	r := source(32)
	for range 200 {
		n := some(r, 2, r.IntN(121))
		a, b := twoParties(r)
		for _, before := range []bool{false, true} {
			for _, on := range []bool{false, true} {
				once := cut(t, n, a, b, on)
				is(t, cut(t, cut(t, n, a, b, before), a, b, on), once)
				is(t, cut(t, cut(t, n, a, b, before), b, a, on), once)
			}
		}
	}
}

// P9.3: packets stay on their way, also those between the two parties.
func TestCutKeepsPackets(t *testing.T) {
	r := source(33)
	n := some(r, most, 0)
	x := cut(t, n, n.Queue[0].From, n.Queue[0].To, true)
	is(t, api.Net{Queue: x.Queue}, n)
	is(t, cut(t, x, n.Queue[0].To, n.Queue[0].From, false), n)
}

// P9.3
func TestCutRefusesParties(t *testing.T) {
	r := source(34)
	for _, n := range []api.Net{network.New(), some(r, 3, 3), some(r, 3, 120)} {
		for _, a := range numbers() {
			for _, b := range numbers() {
				if !checkPacket(api.Packet{From: a, To: b}) {
					noCut(t, n, a, b, api.ErrArg)
				}
			}
		}
	}
}

// P9.3: links that are not valid come first.
func TestCutRefusesLinks(t *testing.T) {
	for _, n := range invalid() {
		noCut(t, n, 1, 2, api.ErrNet)
		noCut(t, n, 2, 2, api.ErrNet)
		noCut(t, n, -1, 16, api.ErrNet)
	}
}
