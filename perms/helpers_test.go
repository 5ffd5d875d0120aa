package perms_test

import (
	"maps"
	"math"
	"math/rand/v2"
	"slices"
	"testing"

	"gridwright/api"
	"gridwright/perms"
)

const (
	mostNumbers    = 256
	mostElements   = 4096
	mostGenerators = 1024
)

func source(seed uint64) *rand.Rand { return rand.New(rand.NewPCG(seed, 11)) }

// wrongCounts are numbers that are not between 0 and 256.
var wrongCounts = []int{-1, -256, math.MinInt, math.MinInt + 1, 257, 258, 511, 512, 1 << 32, 1<<32 + 3, math.MaxInt}

// oddNumbers are beyond the numbers that are permuted, but some have the same low bits.
var oddNumbers = []int{-1, -2, -255, -256, 256, 257, 1 << 16, 1 << 32, 1<<32 + 1, -1 << 32, math.MinInt, math.MinInt + 1, math.MaxInt}

func identity(n int) []int {
	p := make([]int, n)
	for i := range p {
		p[i] = i
	}
	return p
}

// cycle maps each of some numbers to the following one, and the last one to the first.
func cycle(n int, numbers ...int) []int {
	p := identity(n)
	for i, x := range numbers {
		p[x] = numbers[(i+1)%len(numbers)]
	}
	return p
}

// cycles is one cycle after the other, of some lengths.
func cycles(n int, lengths ...int) []int {
	p, first := identity(n), 0
	for _, length := range lengths {
		for i := range length {
			p[first+i] = first + (i+1)%length
		}
		first += length
	}
	return p
}

func rotation(n int) []int { return cycle(n, identity(n)...) }

func reflection(n int) []int {
	p := identity(n)
	slices.Reverse(p)
	return p
}

// exchanges are k permutations, each of which exchanges two numbers that all others keep.
func exchanges(n, k int) (l [][]int) {
	for i := range k {
		l = append(l, cycle(n, 2*i, 2*i+1))
	}
	return l
}

// permutationsOf returns all permutations of n numbers in increasing order.
func permutationsOf(n int) (l [][]int) {
	var extend func(p []int)
	extend = func(p []int) {
		if len(p) == n {
			l = append(l, slices.Clone(p))
		}
		for x := range n {
			if !slices.Contains(p, x) {
				extend(append(slices.Clone(p), x))
			}
		}
	}
	extend(nil)
	return l
}

// listsOf returns all lists of a length with elements from least to greatest.
func listsOf(length, least, greatest int) (l [][]int) {
	if length == 0 {
		return [][]int{nil}
	}
	for _, p := range listsOf(length-1, least, greatest) {
		for x := least; x <= greatest; x++ {
			l = append(l, append(slices.Clone(p), x))
		}
	}
	return l
}

// isPermutation is the definition of a permutation of n numbers.
func isPermutation(p []int, n int) bool {
	if n < 0 || n > mostNumbers || len(p) != n {
		return false
	}
	for x := range n {
		occurs := 0
		for _, y := range p {
			if x == y {
				occurs++
			}
		}
		if occurs != 1 {
			return false
		}
	}
	return true
}

func composed(a, b []int) []int {
	c := make([]int, len(a))
	for i := range c {
		c[i] = a[b[i]]
	}
	return c
}

// listKey is different for different permutations of the same number of numbers.
func listKey(p []int) string {
	b := make([]byte, len(p))
	for i, x := range p {
		b[i] = byte(x)
	}
	return string(b)
}

// closureOf is the definition of the group that permutations generate: it composes all pairs until nothing is new.
func closureOf(n int, gens [][]int) [][]int {
	found := map[string][]int{listKey(identity(n)): identity(n)}
	for _, p := range gens {
		found[listKey(p)] = p
	}
	for size := 0; size < len(found); {
		size = len(found)
		all := slices.Collect(maps.Values(found))
		for _, a := range all {
			for _, b := range all {
				c := composed(a, b)
				found[listKey(c)] = c
			}
		}
	}
	return slices.SortedFunc(maps.Values(found), slices.Compare)
}

// orbitsOf is the definition of the orbits of a group.
func orbitsOf(n int, group [][]int) (l [][]int) {
	for x := range n {
		var orbit []int
		for _, p := range group {
			orbit = append(orbit, p[x])
		}
		slices.Sort(orbit)
		orbit = slices.Compact(orbit)
		if orbit[0] == x {
			l = append(l, orbit)
		}
	}
	return l
}

// joined is another way to the orbits, for all groups: numbers that a generator maps to each other get the same name until nothing changes.
func joined(n int, gens [][]int) (l [][]int) {
	names := identity(n)
	for changed := true; changed; {
		changed = false
		for _, p := range gens {
			for i, x := range p {
				if least := min(names[i], names[x]); names[i] != least || names[x] != least {
					names[i], names[x], changed = least, least, true
				}
			}
		}
	}
	for least := range n {
		var orbit []int
		for x, name := range names {
			if name == least {
				orbit = append(orbit, x)
			}
		}
		if orbit != nil {
			l = append(l, orbit)
		}
	}
	return l
}

func same(a, b [][]int) bool { return slices.EqualFunc(a, b, slices.Equal) }

func closure(t *testing.T, n int, gens [][]int) [][]int {
	t.Helper()
	l, e := perms.Closure(n, gens)
	if e != api.OK {
		t.Fatal(n, len(gens), e)
	}
	return l
}

func orbits(t *testing.T, n int, gens [][]int) [][]int {
	t.Helper()
	l, e := perms.Orbits(n, gens)
	if e != api.OK {
		t.Fatal(n, len(gens), e)
	}
	return l
}

func compose(t *testing.T, a, b []int) []int {
	t.Helper()
	c, e := perms.Compose(a, b)
	if e != api.OK {
		t.Fatal(a, b, e)
	}
	return c
}

func inverse(t *testing.T, p []int) []int {
	t.Helper()
	q, e := perms.Inverse(p)
	if e != api.OK {
		t.Fatal(p, e)
	}
	return q
}

// someGroup returns generators of a group of at most 300 elements: permutations that keep the blocks of a division of the numbers.
func someGroup(r *rand.Rand) (n int, gens [][]int) {
	factorials := []int{1, 1, 2, 6, 24, 120}
	var lengths []int
	for most := 300; len(lengths) < 6; {
		length := 1 + r.IntN(5)
		if most /= factorials[length]; most == 0 {
			break
		}
		lengths = append(lengths, length)
		n += length
	}
	for range r.IntN(5) {
		p, first := identity(n), 0
		for _, length := range lengths {
			if r.IntN(2) == 0 {
				r.Shuffle(length, func(i, j int) { p[first+i], p[first+j] = p[first+j], p[first+i] })
			}
			first += length
		}
		gens = append(gens, p)
	}
	// The numbers of a block need not be neighbors.
	renamed := r.Perm(n)
	for i, p := range gens {
		q := make([]int, n)
		for x, y := range p {
			q[renamed[x]] = renamed[y]
		}
		gens[i] = q
	}
	return n, gens
}
