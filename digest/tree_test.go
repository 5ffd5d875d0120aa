package digest

import (
	"encoding/binary"
	"math"
	"slices"
	"testing"

	"gridwright/api"
)

func node(first, second api.Digest) api.Digest { return tagged("node", first[:], second[:]) }

// elements returns n digests that differ from each other.
func elements(n int) []api.Digest {
	l := make([]api.Digest, n)
	for i := range l {
		l[i] = hash(binary.BigEndian.AppendUint64(nil, uint64(i)))
	}
	return l
}

// firstPart returns the number of elements of the first part of n > 1 elements.
func firstPart(n int) int {
	k := 1
	for 2*k < n {
		k *= 2
	}
	return k
}

// tree is the definition of the digest of a list.
func tree(l []api.Digest) api.Digest {
	switch len(l) {
	case 0:
		return tagged("empty")
	case 1:
		return tagged("leaf", l[0][:])
	}
	k := firstPart(len(l))
	return node(tree(l[:k]), tree(l[k:]))
}

// path is the definition of a path.
func path(l []api.Digest, at int) (p []api.Digest) {
	if len(l) == 1 {
		return nil
	}
	k := firstPart(len(l))
	if at < k {
		return append(path(l[:k], at), tree(l[k:]))
	}
	return append(path(l[k:], at-k), tree(l[:k]))
}

// directions tells, from the leaf to the root, whether the part with the element is the first one.
func directions(at, n int) (first []bool) {
	for n > 1 {
		k := firstPart(n)
		first = append(first, at < k)
		if at < k {
			n = k
		} else {
			at, n = at-k, n-k
		}
	}
	slices.Reverse(first)
	return first
}

// P2.2
func TestTrees(t *testing.T) {
	for n := range 140 {
		if l := elements(n); Tree(l) != tree(l) {
			t.Error(n)
		}
	}
	l := elements(1<<12 + 1)
	for _, n := range []int{1<<12 - 1, 1 << 12, 1<<12 + 1} {
		if Tree(l[:n]) != tree(l[:n]) {
			t.Error(n)
		}
	}
	if Tree(nil) != Tagged("empty", nil) || Tree([]api.Digest{}) != Tagged("empty", nil) {
		t.Error("no elements")
	}
}

// P2.2
func TestShapesOfSmallTrees(t *testing.T) {
	l := elements(7)
	var leaves []api.Digest
	for _, d := range l {
		leaves = append(leaves, tagged("leaf", d[:]))
	}
	two, other := node(leaves[0], leaves[1]), node(leaves[2], leaves[3])
	four, next := node(two, other), node(leaves[4], leaves[5])
	for i, x := range []struct {
		n    int
		want api.Digest
	}{
		{1, leaves[0]},
		{2, two},
		{3, node(two, leaves[2])},
		{4, four},
		{5, node(four, leaves[4])},
		{6, node(four, next)},
		{7, node(four, node(next, leaves[6]))},
	} {
		if Tree(l[:x.n]) != x.want {
			t.Error(i)
		}
	}
}

// P2.2
func TestTreesOfEqualElements(t *testing.T) {
	l := make([]api.Digest, 9)
	for n := 1; n < 9; n++ {
		if Tree(l[:n]) != tree(l[:n]) || Tree(l[:n]) == Tree(l[:n+1]) {
			t.Error(n)
		}
	}
}

// P2.2
func TestPaths(t *testing.T) {
	for n := 1; n <= 70; n++ {
		l := elements(n)
		for at := range n {
			p, e := Path(l, at)
			if e != api.OK || !slices.Equal(p, path(l, at)) {
				t.Error(n, at, e)
			}
		}
	}
}

// P2.2
func TestIndicesWithoutPath(t *testing.T) {
	for n := range 10 {
		for _, at := range []int{-1, n, n + 1, 1 << 40, math.MinInt, math.MaxInt} {
			if p, e := Path(elements(n), at); e != api.ErrArg || len(p) > 0 {
				t.Error(n, at, p, e)
			}
		}
	}
	if p, e := Path(nil, 0); e != api.ErrArg || len(p) > 0 {
		t.Error("no elements:", p, e)
	}
}

// P2.2
func TestPathsAndTreesLeaveTheirArgument(t *testing.T) {
	l := elements(40)
	for n := 1; n < 40; n++ {
		for at := range n {
			p, _ := Path(l[:n], at)
			Climb(l[at], at, n, p[:len(p):len(p)])
		}
		Tree(l[:n])
	}
	if !slices.Equal(l, elements(40)) {
		t.Error("elements were changed")
	}
}

// climbed is what follows for the digest of a list of n elements from an element and a path.
func climbed(d api.Digest, at, n int, p []api.Digest) api.Digest {
	r := tagged("leaf", d[:])
	for i, first := range directions(at, n) {
		if first {
			r = node(r, p[i])
		} else {
			r = node(p[i], r)
		}
	}
	return r
}

// checkClimb tries any path of the right length, and paths that are too long and too short.
func checkClimb(t *testing.T, at, n int) {
	t.Helper()
	length := len(directions(at, n))
	l := elements(length + 2)
	d, p := l[0], l[1:]
	if got, e := Climb(d, at, n, p[:length]); e != api.OK || got != climbed(d, at, n, p) {
		t.Error(n, at, e)
	}
	if got, e := Climb(d, at, n, p); e != api.ErrArg || got != (api.Digest{}) {
		t.Error(n, at, "long path:", e)
	}
	if length == 0 {
		return
	}
	if got, e := Climb(d, at, n, p[:length-1]); e != api.ErrArg || got != (api.Digest{}) {
		t.Error(n, at, "short path:", e)
	}
}

// P2.2
func TestClimbs(t *testing.T) {
	for n := 1; n <= 33; n++ {
		for at := range n {
			checkClimb(t, at, n)
		}
	}
}

// P2.2
func TestClimbsInLongLists(t *testing.T) {
	for _, n := range []int{1<<20 + 1, 1 << 32, 1<<32 + 5, 1<<39 + 1, 1<<40 - 1, 1 << 40} {
		for _, at := range []int{0, 1, n / 3, n / 2, n - 2, n - 1} {
			checkClimb(t, at, n)
		}
	}
}

// P2.2
func TestClimbsThatAreRefused(t *testing.T) {
	p := elements(64)
	for i, x := range []struct{ at, n, length int }{
		{0, 0, 0}, {0, -1, 0}, {-1, -1, 0}, {0, math.MinInt, 0},
		{0, 1<<40 + 1, 40}, {0, 1<<40 + 1, 41}, {1 << 40, 1<<40 + 1, 1}, {0, 1 << 41, 41}, {0, math.MaxInt, 63},
		{-1, 1, 0}, {1, 1, 0}, {2, 2, 1}, {-1, 2, 1}, {5, 4, 2}, {math.MinInt, 1, 0}, {math.MaxInt, 1, 0}, {1 << 40, 1 << 40, 40}, {-1, 1 << 40, 40},
		{0, 1, 1}, {0, 2, 0}, {0, 2, 2}, {1, 2, 0}, {1, 2, 2},
		{0, 3, 1}, {0, 3, 3}, {2, 3, 0}, {2, 3, 2}, {4, 5, 0}, {4, 5, 2}, {4, 5, 3}, {0, 5, 2},
		{0, 1 << 40, 39}, {0, 1 << 40, 41}, {0, 1 << 40, 0},
	} {
		if root, e := Climb(p[0], x.at, x.n, p[:x.length]); e != api.ErrArg || root != (api.Digest{}) {
			t.Error(i, root, e)
		}
	}
}

// P2.2
func TestClimbOfOneElement(t *testing.T) {
	l := elements(1)
	for _, p := range [][]api.Digest{nil, {}} {
		if root, e := Climb(l[0], 0, 1, p); e != api.OK || root != Tree(l) {
			t.Error(root, e)
		}
	}
	if p, e := Path(l, 0); e != api.OK || len(p) > 0 {
		t.Error(p, e)
	}
}

// P2.3
func TestChain(t *testing.T) {
	zero := api.Digest{}
	if Chain(zero, zero) != tagged("chain", make([]byte, 64)) {
		t.Error("zero digests")
	}
	l := elements(6)
	end, want := l[0], l[0]
	for i, d := range l[1:] {
		end, want = Chain(end, d), tagged("chain", want[:], d[:])
		if end != want {
			t.Error(i)
		}
	}
	if Chain(l[0], l[1]) == Chain(l[1], l[0]) {
		t.Error("the order does not count")
	}
}

// P2.4
func TestClimbOfAPathLeadsToTheTree(t *testing.T) {
	l := elements(1<<12 + 1)
	for _, n := range []int{1, 2, 3, 4, 5, 31, 32, 33, 100, 127, 128, 129, 1<<12 - 1, 1 << 12, 1<<12 + 1} {
		root := Tree(l[:n])
		for at := 0; at < n; at += 1 + n/9 {
			p, e := Path(l[:n], at)
			got, f := Climb(l[at], at, n, p)
			if e != api.OK || f != api.OK || got != root || len(p) > 40 {
				t.Error(n, at, e, f)
			}
		}
	}
}

// P2.4
func TestAnotherElementLeadsToAnotherTree(t *testing.T) {
	l := elements(9)
	for n := 2; n <= 9; n++ {
		for at := range n {
			p, _ := Path(l[:n], at)
			other := (at + 1) % n
			if got, e := Climb(l[other], at, n, p); e != api.OK || got == Tree(l[:n]) {
				t.Error(n, at, e)
			}
			if got, _ := Climb(l[at], other, n, p); got == Tree(l[:n]) {
				t.Error(n, at, "as", other)
			}
		}
	}
}

// P2.4
func TestTreesAreNodesOfTheirParts(t *testing.T) {
	l := elements(70)
	for n := 2; n <= 70; n++ {
		k := firstPart(n)
		first, second := Tree(l[:k]), Tree(l[k:n])
		if Tree(l[:n]) != Tagged("node", append(first[:], second[:]...)) {
			t.Error(n)
		}
	}
}

// P2.4
func TestAnElementAfterAPowerOfTwo(t *testing.T) {
	l := elements(1<<10 + 1)
	for n := 1; n <= 1<<10; n *= 2 {
		if Tree(l[:n+1]) != node(Tree(l[:n]), tagged("leaf", l[n][:])) {
			t.Error(n)
		}
	}
}
