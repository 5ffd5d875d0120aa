package network_test

import (
	"slices"
	"testing"

	"gridwright/api"
	"gridwright/network"
)

// P9.1
func TestNew(t *testing.T) {
	n := network.New()
	if len(n.Queue) != 0 || len(n.Apart) != 0 {
		t.Error(n)
	}
	if e := network.Check(n); e != api.OK {
		t.Error(e)
	}
	if e := network.Check(api.Net{Queue: []api.Packet{}, Apart: [][2]int{}}); e != api.OK {
		t.Error(e)
	}
}

// numbers are those of all parties, and others.
func numbers() (l []int) {
	for i := range parties {
		l = append(l, i)
	}
	return append(l, append(extremes(), 16, 17)...)
}

// P9.1: the sender and the receiver of each packet are different parties.
func TestCheckOfParties(t *testing.T) {
	r := source(1)
	for _, a := range numbers() {
		for _, b := range numbers() {
			p := api.Packet{From: a, To: b}
			for at := range 3 {
				n := some(r, 3, 2)
				n.Queue[at] = p
				if e := network.Check(n); e != checkOf(n) || (e == api.OK) != checkPacket(p) {
					t.Error(a, b, at, e)
				}
			}
		}
	}
}

// P9.1
func TestCheckOfData(t *testing.T) {
	r := source(2)
	for length, want := range map[int]api.Errno{0: api.OK, 1: api.OK, 65536: api.OK, mostData - 1: api.OK, mostData: api.OK, mostData + 1: api.ErrNet, 2 * mostData: api.ErrNet} {
		for at := range 3 {
			n := some(r, 3, 2)
			n.Queue[at].Data = make([]byte, length)
			if e := network.Check(n); e != want || checkOf(n) != want {
				t.Error(length, at, e)
			}
		}
	}
}

// P9.1
func TestCheckCountsPackets(t *testing.T) {
	r := source(3)
	for many, want := range map[int]api.Errno{1: api.OK, 4095: api.OK, 4096: api.OK, 4097: api.ErrNet, 4098: api.ErrNet, 8192: api.ErrNet} {
		n := some(r, many, 3)
		if e := network.Check(n); e != want || checkOf(n) != want {
			t.Error(many, e)
		}
	}
}

// P9.1: each of many packets can be the one that is wrong.
func TestCheckLooksAtAllPackets(t *testing.T) {
	r := source(4)
	n := some(r, most, 3)
	for _, at := range []int{0, 1, 2048, 4094, 4095} {
		p := n.Queue[at]
		n.Queue[at].To = p.From
		if e := network.Check(n); e != api.ErrNet {
			t.Error(at, e)
		}
		n.Queue[at] = p
		if e := network.Check(n); e != api.OK {
			t.Error(at, e)
		}
	}
}

// P9.1: one pair of any two numbers.
func TestCheckOfOnePair(t *testing.T) {
	count := 0
	for _, a := range numbers() {
		for _, b := range numbers() {
			n := api.Net{Apart: [][2]int{{a, b}}}
			e := network.Check(n)
			if e != checkOf(n) {
				t.Error(a, b, e)
			}
			if e == api.OK {
				count++
			}
		}
	}
	if count != 120 {
		t.Error(count)
	}
}

// P9.1: the pairs are strictly increasing, by the first number, then by the second one.
func TestCheckOfTwoPairs(t *testing.T) {
	all := allPairs()
	for i, a := range all {
		for j, b := range all {
			want := api.OK
			if i >= j {
				want = api.ErrNet
			}
			n := api.Net{Apart: [][2]int{a, b}}
			if e := network.Check(n); e != want || checkOf(n) != want {
				t.Error(a, b, e)
			}
		}
	}
}

// P9.1
func TestCheckOfManyPairs(t *testing.T) {
	all := allPairs()
	if e := network.Check(api.Net{Apart: all}); e != api.OK {
		t.Error(e)
	}
	for i := range all {
		less := slices.Delete(slices.Clone(all), i, i+1)
		if e := network.Check(api.Net{Apart: less}); e != api.OK {
			t.Error(i, e)
		}
		twice := slices.Insert(slices.Clone(all), i, all[i])
		if e := network.Check(api.Net{Apart: twice}); e != api.ErrNet {
			t.Error(i, e)
		}
		atTheEnd := append(slices.Clone(all), all[i])
		if e := network.Check(api.Net{Apart: atTheEnd}); e != api.ErrNet {
			t.Error(i, e)
		}
	}
	backward := slices.Clone(all)
	slices.Reverse(backward)
	if e := network.Check(api.Net{Apart: backward}); e != api.ErrNet {
		t.Error(e)
	}
}

// P9.1
func TestCheckOfSomeLinks(t *testing.T) {
	r := source(5)
	for range 300 {
		n := some(r, r.IntN(20), r.IntN(121))
		if e := network.Check(n); e != api.OK || checkOf(n) != api.OK {
			t.Error(n, e)
		}
	}
}

// P9.1
func TestCheckRefuses(t *testing.T) {
	for i, n := range invalid() {
		if e := network.Check(n); e != api.ErrNet || checkOf(n) != api.ErrNet {
			t.Error(i, n.Apart, e)
		}
	}
}

// P9.1: between all parties, also over links that are cut.
func TestSend(t *testing.T) {
	r := source(6)
	for _, cuts := range []int{0, 1, 60, 120} {
		for packets := range 4 {
			for a := range parties {
				for b := range parties {
					n := roomy(some(r, packets, cuts))
					p := api.Packet{From: a, To: b, Data: someBytes(r, 5)}
					if a == b {
						noSend(t, n, p, api.ErrNet)
						continue
					}
					unchanged(t, n, func() { is(t, sent(t, n, p), withOf(n, p)) })
				}
			}
		}
	}
}

// P9.1
func TestSendRefusesPackets(t *testing.T) {
	r := source(7)
	for _, a := range numbers() {
		for _, b := range numbers() {
			if p := (api.Packet{From: a, To: b}); !checkPacket(p) {
				noSend(t, network.New(), p, api.ErrNet)
				noSend(t, some(r, 3, 3), p, api.ErrNet)
			}
		}
	}
}

// P9.1
func TestSendOfData(t *testing.T) {
	r := source(8)
	n := some(r, 2, 2)
	for _, length := range []int{0, 1, 255, 256, mostData - 1, mostData} {
		p := api.Packet{From: 15, Data: someBytes(r, length)}
		is(t, sent(t, n, p), withOf(n, p))
	}
	for _, length := range []int{mostData + 1, 2 * mostData} {
		noSend(t, n, api.Packet{From: 15, Data: make([]byte, length)}, api.ErrNet)
	}
	is(t, sent(t, n, api.Packet{To: 1, Data: []byte{}}), withOf(n, api.Packet{To: 1}))
}

// P9.1
func TestSendLimits(t *testing.T) {
	r := source(9)
	n := some(r, most-1, 3)
	p := somePacket(r)
	x := sent(t, n, p)
	is(t, x, withOf(n, p))
	noSend(t, x, p, api.ErrLimit)
	noSend(t, x, api.Packet{From: 3, To: 3}, api.ErrNet)
	noSend(t, x, api.Packet{From: 3, To: 4, Data: make([]byte, mostData+1)}, api.ErrNet)
	noSend(t, some(r, most+1, 3), p, api.ErrNet)
}

// P9.1
func TestSendRefusesLinks(t *testing.T) {
	for _, n := range invalid() {
		noSend(t, n, api.Packet{From: 1, To: 2}, api.ErrNet)
		noSend(t, n, api.Packet{From: 2, To: 2}, api.ErrNet)
	}
}

// P9.1: many packets, one after the other, are kept in their order.
func TestSendManyPackets(t *testing.T) {
	r := source(10)
	n, want := network.New(), somePackets(r, most)
	for _, p := range want {
		n = sent(t, n, p)
	}
	is(t, n, api.Net{Queue: want})
	noSend(t, n, want[0], api.ErrLimit)
}

// P9.1, P9.2: two packets that are added to the same links do not meet, whatever memory these have.
func TestTwoBranches(t *testing.T) {
	r := source(11)
	for packets := 1; packets < 6; packets++ {
		n := roomy(some(r, packets+1, 2))
		p, q := api.Packet{From: 1, To: 2, Data: []byte("p")}, api.Packet{From: 3, To: 4, Data: []byte("q")}
		for _, x := range []api.Net{n, sent(t, n, p), lost(t, n, packets), repeated(t, n, 0)} {
			a, b, c := sent(t, x, p), sent(t, x, q), lost(t, x, 0)
			f, g := repeated(t, a, packets), repeated(t, b, 0)
			_, h := delivered(t, b, packets)
			is(t, a, withOf(x, p))
			is(t, b, withOf(x, q))
			is(t, c, withoutOf(x, 0))
			is(t, f, withOf(a, a.Queue[packets]))
			is(t, g, withOf(b, b.Queue[0]))
			is(t, h, withoutOf(b, packets))
			is(t, sent(t, h, p), withOf(h, p))
			is(t, b, withOf(x, q))
		}
	}
}
