package network_test

import (
	"math/rand/v2"
	"testing"

	"gridwright/api"
	"gridwright/network"
)

// A world is what links are compared with: which packets are on their way, by their indices in the list of all packets that were sent, and which links are cut.
type world struct {
	all     []api.Packet
	waiting []int
	apart   map[[2]int]bool
}

func (w *world) isCut(p api.Packet) bool {
	return w.apart[[2]int{p.From, p.To}] || w.apart[[2]int{p.To, p.From}]
}

func (w *world) remove(at int) {
	w.waiting = append(append([]int{}, w.waiting[:at]...), w.waiting[at+1:]...)
}

// agrees fails unless links are valid, and as the world says.
func (w *world) agrees(t *testing.T, n api.Net) {
	t.Helper()
	want := api.Net{}
	for _, i := range w.waiting {
		want.Queue = append(want.Queue, w.all[i])
	}
	for _, pair := range allPairs() {
		if w.apart[pair] || w.apart[[2]int{pair[1], pair[0]}] {
			want.Apart = append(want.Apart, pair)
		}
	}
	is(t, n, want)
	if e := network.Check(n); e != api.OK {
		t.Fatal(e)
	}
}

// act does something, and checks what is delivered.
func (w *world) act(t *testing.T, r *rand.Rand, n api.Net) api.Net {
	t.Helper()
	kind := r.IntN(6)
	if len(w.waiting) == 0 && 1 <= kind && kind <= 3 {
		kind = 0
	}
	at := r.IntN(max(1, len(w.waiting)))
	switch kind {
	case 1:
		p, x := delivered(t, n, at)
		want := w.all[w.waiting[at]]
		if w.isCut(want) {
			want = api.Packet{}
		}
		if !samePacket(p, want) {
			t.Error("another packet is delivered:", p, want)
		}
		w.remove(at)
		return x
	case 2:
		w.remove(at)
		return lost(t, n, at)
	case 3:
		w.waiting = append(w.waiting, w.waiting[at])
		return repeated(t, n, at)
	case 4:
		a, b := twoParties(r)
		on := r.IntN(2) == 0
		w.apart[[2]int{a, b}], w.apart[[2]int{b, a}] = on, on
		return cut(t, n, a, b, on)
	}
	p := somePacket(r)
	w.waiting = append(w.waiting, len(w.all))
	w.all = append(w.all, p)
	return sent(t, n, p)
}

// P9.1 to P9.4: whatever happens, the links are valid, what is delivered was sent like that, and what was returned before stays as it was.
func TestWhateverHappens(t *testing.T) {
	r := source(40)
	for range 60 {
		w := &world{apart: map[[2]int]bool{}}
		n := network.New()
		var returned, kept []api.Net
		for range 150 {
			n = w.act(t, r, n)
			w.agrees(t, n)
			returned, kept = append(returned, n), append(kept, copied(n))
		}
		for i, x := range returned {
			is(t, x, kept[i])
		}
	}
}

// P9.4: results with an error are valid links, too.
func TestErrorsWithValidLinks(t *testing.T) {
	var results []api.Net
	for _, n := range append(invalid(), network.New()) {
		a, _ := network.Send(n, api.Packet{})
		_, b, _ := network.Deliver(n, -1)
		c, _ := network.Lose(n, -1)
		d, _ := network.Repeat(n, -1)
		f, _ := network.Cut(n, 1, 1, true)
		results = append(results, a, b, c, d, f)
	}
	for i, x := range results {
		if e := network.Check(x); e != api.OK {
			t.Error(i, e)
		}
	}
}

// P9.4: without losses, repetitions and cuts, each packet is delivered once, in all orders.
func TestEachPacketIsDeliveredOnce(t *testing.T) {
	var all []api.Packet
	for i := range 6 {
		all = append(all, api.Packet{From: i / 2, To: 5 - i/3, Data: []byte{byte(i)}})
	}
	n := network.New()
	for _, p := range all {
		n = sent(t, n, p)
	}
	orders := map[string]bool{}
	var deliver func(n api.Net, order string)
	deliver = func(n api.Net, order string) {
		if len(n.Queue) == 0 {
			orders[order] = true
		}
		for at := range n.Queue {
			p, x := delivered(t, n, at)
			if len(p.Data) != 1 || int(p.Data[0]) >= len(all) || !samePacket(p, all[p.Data[0]]) {
				t.Fatal("a packet that was not sent:", p)
			}
			deliver(x, order+string(p.Data))
		}
	}
	deliver(n, "")
	for order := range orders {
		seen := map[rune]bool{}
		for _, c := range order {
			seen[c] = true
		}
		if len(order) != 6 || len(seen) != 6 {
			t.Errorf("%q", order)
		}
	}
	if len(orders) != 720 {
		t.Error(len(orders))
	}
}

// P9.4: many packets are delivered once each, in any order, while others are sent.
func TestManyPacketsAreDeliveredOnce(t *testing.T) {
	r := source(41)
	n, next := network.New(), 0
	got := map[[2]byte]int{}
	for next < 1000 || len(n.Queue) > 0 {
		if next < 1000 && r.IntN(2) == 0 {
			a, b := twoParties(r)
			n = sent(t, n, api.Packet{From: a, To: b, Data: []byte{byte(next >> 8), byte(next)}})
			next++
		} else if len(n.Queue) > 0 {
			p, x := delivered(t, n, r.IntN(len(n.Queue)))
			got[[2]byte(p.Data)]++
			n = x
		}
	}
	if len(got) != 1000 {
		t.Error(len(got))
	}
	for data, times := range got {
		if times != 1 {
			t.Error(data, times)
		}
	}
}

// P9.4: a cut works in both directions, while it lasts, and for packets that were sent before it, too.
func TestCutsWorkInBothDirections(t *testing.T) {
	for _, pair := range allPairs() {
		a, b := pair[0], pair[1]
		there, back := api.Packet{From: a, To: b, Data: []byte("there")}, api.Packet{From: b, To: a, Data: []byte("back")}
		n := sent(t, sent(t, network.New(), there), back)
		for _, x := range []api.Net{cut(t, n, a, b, true), cut(t, n, b, a, true)} {
			x = sent(t, sent(t, x, there), back)
			for at := range 4 {
				if p, _ := delivered(t, x, at); !isZeroPacket(p) {
					t.Error(pair, at, p)
				}
			}
			for _, y := range []api.Net{cut(t, x, a, b, false), cut(t, x, b, a, false)} {
				for at, want := range []api.Packet{there, back, there, back} {
					if p, _ := delivered(t, y, at); !samePacket(p, want) {
						t.Error(pair, at, p)
					}
				}
			}
		}
	}
}

// P9.1 to P9.3: the examples of the chapter.
func TestExamples(t *testing.T) {
	noDeliver(t, network.New(), 0, api.ErrArg)
	noSend(t, network.New(), api.Packet{From: 3, To: 3}, api.ErrNet)
	noCut(t, network.New(), 2, 2, api.ErrArg)
	is(t, cut(t, network.New(), 3, 1, true), api.Net{Apart: [][2]int{{1, 3}}})
}
