package network_test

import (
	"bytes"
	"math"
	"math/rand/v2"
	"reflect"
	"slices"
	"testing"

	"gridwright/api"
	"gridwright/network"
)

const (
	parties  = 16
	most     = 4096    // packets of a queue
	mostData = 1 << 20 // bytes of a packet
)

func source(seed uint64) *rand.Rand { return rand.New(rand.NewPCG(seed, 9)) }

// extremes are numbers that are those of no parties, and of no packets.
func extremes() []int {
	return []int{math.MinInt, math.MinInt + 1, -1 << 32, -16, -2, -1, 1 << 16, 1 << 32, 1<<32 + 1, math.MaxInt - 1, math.MaxInt}
}

func someBytes(r *rand.Rand, n int) []byte {
	l := make([]byte, n)
	for i := range l {
		l[i] = byte(r.IntN(256))
	}
	return l
}

// twoParties returns two different parties, in any order.
func twoParties(r *rand.Rand) (a, b int) {
	a, b = r.IntN(parties), r.IntN(parties-1)
	if b >= a {
		b++
	}
	return a, b
}

func somePacket(r *rand.Rand) api.Packet {
	a, b := twoParties(r)
	return api.Packet{From: a, To: b, Data: someBytes(r, r.IntN(4))}
}

func somePackets(r *rand.Rand, n int) (l []api.Packet) {
	for range n {
		l = append(l, somePacket(r))
	}
	return l
}

// allPairs returns all links, in order.
func allPairs() (l [][2]int) {
	for a := range parties {
		for b := a + 1; b < parties; b++ {
			l = append(l, [2]int{a, b})
		}
	}
	return l
}

// somePairs returns as many links, in order.
func somePairs(r *rand.Rand, n int) (l [][2]int) {
	all := allPairs()
	for _, i := range slices.Sorted(slices.Values(r.Perm(len(all))[:n])) {
		l = append(l, all[i])
	}
	return l
}

// some returns valid links.
func some(r *rand.Rand, packets, cuts int) api.Net {
	return api.Net{Queue: somePackets(r, packets), Apart: somePairs(r, cuts)}
}

// roomy returns links whose lists have more memory than they need, filled with something else.
func roomy(n api.Net) api.Net {
	queue := append(slices.Clone(n.Queue), slices.Repeat([]api.Packet{{From: 14, To: 15, Data: []byte("room")}}, 9)...)
	apart := append(slices.Clone(n.Apart), slices.Repeat([][2]int{{14, 15}}, 9)...)
	return api.Net{Queue: queue[:len(n.Queue)], Apart: apart[:len(n.Apart)]}
}

func samePacket(p, q api.Packet) bool {
	return p.From == q.From && p.To == q.To && bytes.Equal(p.Data, q.Data)
}

// equal takes nil for an empty slice.
func equal(n, x api.Net) bool {
	return slices.EqualFunc(n.Queue, x.Queue, samePacket) && slices.Equal(n.Apart, x.Apart)
}

func isZero(n api.Net) bool { return equal(n, api.Net{}) }

func isZeroPacket(p api.Packet) bool { return samePacket(p, api.Packet{}) }

// copied returns links that have no memory in common with n.
func copied(n api.Net) api.Net {
	n.Queue, n.Apart = slices.Clone(n.Queue), slices.Clone(n.Apart)
	for i := range n.Queue {
		n.Queue[i].Data = bytes.Clone(n.Queue[i].Data)
	}
	return n
}

// checkPacket is the definition of a valid packet.
func checkPacket(p api.Packet) bool {
	return p.From != p.To && p.From >= 0 && p.From <= 15 && p.To >= 0 && p.To <= 15 && len(p.Data) <= 1048576
}

// checkOf is the definition of Check.
func checkOf(n api.Net) api.Errno {
	if len(n.Queue) > 4096 || slices.ContainsFunc(n.Queue, func(p api.Packet) bool { return !checkPacket(p) }) {
		return api.ErrNet
	}
	before := -1
	for _, pair := range n.Apart {
		a, b := pair[0], pair[1]
		if a < 0 || a > 15 || b < 0 || b > 15 || a >= b || 16*a+b <= before {
			return api.ErrNet
		}
		before = 16*a + b
	}
	return api.OK
}

// withoutOf is the definition of links without a packet.
func withoutOf(n api.Net, at int) api.Net {
	x := api.Net{Apart: n.Apart}
	for i, p := range n.Queue {
		if i != at {
			x.Queue = append(x.Queue, p)
		}
	}
	return x
}

// withOf is the definition of links with a further packet.
func withOf(n api.Net, p api.Packet) api.Net {
	x := copied(n)
	x.Queue = append(x.Queue, p)
	return x
}

// isCut is the definition of a cut link.
func isCut(n api.Net, a, b int) bool {
	for _, pair := range n.Apart {
		if pair == [2]int{a, b} || pair == [2]int{b, a} {
			return true
		}
	}
	return false
}

// cutOf is the definition of Cut of arguments that it does not refuse.
func cutOf(n api.Net, a, b int, on bool) api.Net {
	x := api.Net{Queue: n.Queue}
	for _, pair := range allPairs() {
		cut := isCut(n, pair[0], pair[1])
		if pair == [2]int{a, b} || pair == [2]int{b, a} {
			cut = on
		}
		if cut {
			x.Apart = append(x.Apart, pair)
		}
	}
	return x
}

// sent returns links with a further packet, which must be possible.
func sent(t *testing.T, n api.Net, p api.Packet) api.Net {
	t.Helper()
	x, e := network.Send(n, p)
	if e != api.OK {
		t.Fatal("Send:", p, e)
	}
	return x
}

// delivered returns a packet that is delivered, and the links without it, which must be possible.
func delivered(t *testing.T, n api.Net, at int) (api.Packet, api.Net) {
	t.Helper()
	p, x, e := network.Deliver(n, at)
	if e != api.OK {
		t.Fatal("Deliver:", at, e)
	}
	return p, x
}

// lost returns links without a packet, which must be possible.
func lost(t *testing.T, n api.Net, at int) api.Net {
	t.Helper()
	x, e := network.Lose(n, at)
	if e != api.OK {
		t.Fatal("Lose:", at, e)
	}
	return x
}

// repeated returns links with a packet once more, which must be possible.
func repeated(t *testing.T, n api.Net, at int) api.Net {
	t.Helper()
	x, e := network.Repeat(n, at)
	if e != api.OK {
		t.Fatal("Repeat:", at, e)
	}
	return x
}

// cut returns links of which one is cut or mended, which must be possible.
func cut(t *testing.T, n api.Net, a, b int, on bool) api.Net {
	t.Helper()
	x, e := network.Cut(n, a, b, on)
	if e != api.OK {
		t.Fatal("Cut:", a, b, on, e)
	}
	return x
}

// noSend fails unless Send refuses its arguments, without a result.
func noSend(t *testing.T, n api.Net, p api.Packet, want api.Errno) {
	t.Helper()
	if x, e := network.Send(n, p); e != want || !isZero(x) {
		t.Error("Send:", p.From, p.To, len(p.Data), e, want)
	}
}

// noDeliver fails unless Deliver refuses its arguments, without a result.
func noDeliver(t *testing.T, n api.Net, at int, want api.Errno) {
	t.Helper()
	if p, x, e := network.Deliver(n, at); e != want || !isZeroPacket(p) || !isZero(x) {
		t.Error("Deliver:", at, p, e, want)
	}
}

// noLose fails unless Lose refuses its arguments, without a result.
func noLose(t *testing.T, n api.Net, at int, want api.Errno) {
	t.Helper()
	if x, e := network.Lose(n, at); e != want || !isZero(x) {
		t.Error("Lose:", at, e, want)
	}
}

// noRepeat fails unless Repeat refuses its arguments, without a result.
func noRepeat(t *testing.T, n api.Net, at int, want api.Errno) {
	t.Helper()
	if x, e := network.Repeat(n, at); e != want || !isZero(x) {
		t.Error("Repeat:", at, e, want)
	}
}

// noCut fails unless Cut refuses its arguments, without a result.
func noCut(t *testing.T, n api.Net, a, b int, want api.Errno) {
	t.Helper()
	for _, on := range []bool{false, true} {
		if x, e := network.Cut(n, a, b, on); e != want || !isZero(x) {
			t.Error("Cut:", a, b, on, e, want)
		}
	}
}

// is fails unless links are the expected ones.
func is(t *testing.T, x, want api.Net) {
	t.Helper()
	if !equal(x, want) {
		t.Error("packets:", len(x.Queue), len(want.Queue), "apart:", x.Apart, want.Apart)
	}
}

// unchanged fails if do modifies links, also in the memory behind their lists.
func unchanged(t *testing.T, n api.Net, do func()) {
	t.Helper()
	all := api.Net{Queue: n.Queue[:cap(n.Queue)], Apart: n.Apart[:cap(n.Apart)]}
	before := copied(all)
	do()
	if !reflect.DeepEqual(all, before) {
		t.Error("the arguments change:", len(n.Queue), n.Apart)
	}
}

// invalid returns links that are not valid, each by one change of links with three packets and three cuts.
func invalid() (l []api.Net) {
	add := func(change func(n *api.Net)) {
		n := api.Net{Apart: [][2]int{{0, 1}, {0, 2}, {3, 5}}}
		for i := range 3 {
			n.Queue = append(n.Queue, api.Packet{From: i, To: i + 1, Data: []byte("abc")})
		}
		change(&n)
		l = append(l, n)
	}
	for i := range 3 {
		for _, number := range append(extremes(), 16) {
			add(func(n *api.Net) { n.Queue[i].From = number })
			add(func(n *api.Net) { n.Queue[i].To = number })
			add(func(n *api.Net) { n.Apart[i][0] = number })
			add(func(n *api.Net) { n.Apart[i][1] = number })
		}
		add(func(n *api.Net) { n.Queue[i].From = n.Queue[i].To })
		add(func(n *api.Net) { n.Queue[i].Data = make([]byte, mostData+1) })
		add(func(n *api.Net) { n.Queue[i] = api.Packet{} })
		add(func(n *api.Net) { n.Apart[i] = [2]int{n.Apart[i][1], n.Apart[i][0]} })
		add(func(n *api.Net) { n.Apart[i] = [2]int{n.Apart[i][0], n.Apart[i][0]} })
		add(func(n *api.Net) { n.Apart = slices.Insert(n.Apart, i, n.Apart[i]) })
		add(func(n *api.Net) { j := (i + 1) % 3; n.Apart[i], n.Apart[j] = n.Apart[j], n.Apart[i] })
	}
	add(func(n *api.Net) { n.Queue = slices.Repeat(n.Queue[:1], most+1) })
	return l
}
