package perms_test

import (
	"fmt"
	"slices"
	"testing"

	"gridwright/api"
	"gridwright/perms"
)

// P11.2: Closure and Orbits, for all choices of up to two permutations of up to four numbers, and of three of three numbers.
func TestSmallGroups(t *testing.T) {
	for n := range 5 {
		all := permutationsOf(n)
		choices := [][][]int{nil}
		for _, a := range all {
			choices = append(choices, [][]int{a})
			for _, b := range all {
				choices = append(choices, [][]int{a, b})
				for _, c := range all {
					if n <= 3 {
						choices = append(choices, [][]int{a, b, c})
					}
				}
			}
		}
		for _, gens := range choices {
			want := closureOf(n, gens)
			if l := closure(t, n, gens); !same(l, want) {
				t.Error(gens, l, want)
			}
			if l := orbits(t, n, gens); !same(l, orbitsOf(n, want)) {
				t.Error(gens, l)
			}
		}
	}
}

// P11.2: Closure and Orbits of many generators of groups of moderate sizes.
func TestSomeGroups(t *testing.T) {
	r := source(4)
	for range 300 {
		n, gens := someGroup(r)
		want := closureOf(n, gens)
		if l := closure(t, n, gens); !same(l, want) {
			t.Error(gens, len(l), len(want))
		}
		if l := orbits(t, n, gens); !same(l, orbitsOf(n, want)) || !same(l, joined(n, gens)) {
			t.Error(gens, l)
		}
	}
}

// projective maps 0 to p - 1, and p in the place of infinity, by additions, multiplications, and minus the inverse.
func projective(p, factor int) [][]int {
	add, times, turn := identity(p+1), identity(p+1), identity(p+1)
	for x := range p {
		add[x], times[x] = (x+1)%p, x*factor%p
		for y := range p {
			if x*y%p == p-1 {
				turn[x] = y
			}
		}
	}
	turn[0], turn[p] = p, 0
	return [][]int{add, times, turn}
}

// affine maps 0 to p - 1 by additions and by multiplications with powers of a factor.
func affine(p, factor int) [][]int {
	add, times := identity(p), identity(p)
	for x := range p {
		add[x], times[x] = (x+1)%p, x*factor%p
	}
	return [][]int{add, times}
}

// generated is generators, and how many elements the group has that they generate, if it is not too large.
type generated struct {
	name  string
	n     int
	gens  [][]int
	order int
}

func knownGroups() (l []generated) {
	factorials := []int{1, 1, 2, 6, 24, 120, 720}
	for n, order := range factorials {
		l = append(l, generated{"all permutations", n, [][]int{cycle(n, identity(min(n, 2))...), rotation(n)}, order})
	}
	for _, n := range []int{1, 2, 3, 7, 64, 200, 255, 256} {
		l = append(l, generated{"rotations", n, [][]int{rotation(n)}, n})
	}
	for _, n := range []int{3, 4, 5, 63, 64, 128, 255, 256} {
		l = append(l, generated{"rotations and reflections", n, [][]int{rotation(n), reflection(n)}, 2 * n})
	}
	for k := range 13 {
		l = append(l, generated{"exchanges", 2 * k, exchanges(2*k, k), 1 << k})
		l = append(l, generated{"exchanges", 256, exchanges(256, k), 1 << k})
	}
	return append(l,
		generated{"even permutations", 7, [][]int{cycle(7, 0, 1, 2), cycle(7, 2, 3, 4, 5, 6)}, 2520},
		generated{"cycles", 34, [][]int{cycles(34, 9, 5, 7, 13)}, 4095},
		generated{"cycles", 256, [][]int{cycles(256, 9, 5, 7, 13)}, 4095},
		generated{"two rotations", 128, [][]int{cycles(128, 64), reversed(cycles(128, 64))}, 4096},
		generated{"two rotations", 160, [][]int{cycles(160, 128), reversed(cycles(160, 32))}, 4096},
		generated{"two rotations", 255, [][]int{cycles(255, 127), reversed(cycles(255, 32))}, 4064},
		generated{"projective", 14, projective(13, 2), 2184},
		generated{"projective", 18, projective(17, 9), 2448},
		generated{"projective", 20, projective(19, 4), 3420},
		generated{"affine", 61, affine(61, 2), 3660},
		generated{"affine", 251, affine(251, 1), 251},
		generated{"affine", 241, affine(241, 240), 482},
	)
}

// reversed does the same in the reverse order of all numbers.
func reversed(p []int) []int {
	r := reflection(len(p))
	return composed(r, composed(p, r))
}

// isClosure reports whether a list is, in order, a group that contains the generators; if it has as many elements as the group that they generate, it is this group.
func isClosure(l [][]int, n int, gens [][]int) bool {
	found := map[string]bool{}
	for _, p := range l {
		if !isPermutation(p, n) {
			return false
		}
		found[listKey(p)] = true
	}
	for _, p := range gens {
		for _, q := range l {
			if !found[listKey(composed(p, q))] {
				return false
			}
		}
	}
	increasing := slices.IsSortedFunc(l, slices.Compare) && len(found) == len(l)
	return increasing && found[listKey(identity(n))]
}

// P11.2: groups whose numbers of elements are known, up to 4096.
func TestKnownGroups(t *testing.T) {
	for _, x := range knownGroups() {
		t.Run(fmt.Sprint(x.name, " of ", x.n), func(t *testing.T) {
			l := closure(t, x.n, x.gens)
			if len(l) != x.order || !isClosure(l, x.n, x.gens) {
				t.Error(len(l), x.order)
			}
			if l := orbits(t, x.n, x.gens); !same(l, joined(x.n, x.gens)) {
				t.Error(l)
			}
		})
	}
}

// largeGroups have more than 4096 elements, some just a few more.
func largeGroups() []generated {
	return []generated{
		{"all permutations", 7, [][]int{cycle(7, 0, 1), rotation(7)}, 5040},
		{"all permutations", 8, [][]int{cycle(8, 0, 1), rotation(8)}, 40320},
		{"all permutations", 256, [][]int{cycle(256, 0, 1), rotation(256)}, 0},
		{"even permutations", 8, [][]int{cycle(8, 0, 1, 2), cycle(8, 1, 2, 3, 4, 5, 6, 7)}, 20160},
		{"exchanges", 26, exchanges(26, 13), 8192},
		{"exchanges", 256, exchanges(256, 128), 0},
		{"cycles", 70, [][]int{cycles(70, 4, 25, 41)}, 4100},
		{"cycles", 256, [][]int{cycles(256, 2, 3, 5, 7, 11, 13, 17, 19, 23, 29, 31, 37)}, 7420738134810},
		{"two rotations", 256, [][]int{cycles(256, 128), reversed(cycles(256, 128))}, 16384},
		{"two rotations", 241, [][]int{cycles(241, 200), reversed(cycles(241, 21))}, 4200},
		{"projective", 18, projective(17, 3), 4896},
		{"projective", 20, projective(19, 2), 6840},
		{"affine", 67, affine(67, 2), 4422},
		{"affine", 251, affine(251, 6), 62750},
	}
}

// P11.2: Closure reports that a group is too large; Orbits returns its orbits.
func TestLargeGroups(t *testing.T) {
	for _, x := range largeGroups() {
		t.Run(fmt.Sprint(x.name, " of ", x.n), func(t *testing.T) {
			if l, e := perms.Closure(x.n, x.gens); e != api.ErrLimit || l != nil {
				t.Error(len(l), e)
			}
			if l := orbits(t, x.n, x.gens); !same(l, joined(x.n, x.gens)) {
				t.Error(l)
			}
		})
	}
}

// P11.2: a generator makes the group too large, wherever it is in the list.
func TestLastGenerator(t *testing.T) {
	gens := exchanges(26, 13)
	for i := range gens {
		few := slices.Delete(slices.Clone(gens), i, i+1)
		if l := closure(t, 26, few); len(l) != 4096 {
			t.Error(i, len(l))
		}
		if l, e := perms.Closure(26, slices.Insert(slices.Clone(few), i, identity(26))); e != api.OK || len(l) != 4096 {
			t.Error(i, len(l), e)
		}
		if l, e := perms.Closure(26, append(few, gens[i])); e != api.ErrLimit || l != nil {
			t.Error(i, len(l), e)
		}
	}
}

// P11.2: up to 1024 generators, and more; of more, also those that are no permutations.
func TestNumbersOfGenerators(t *testing.T) {
	all := closure(t, 256, exchanges(256, 12))
	for _, k := range []int{0, 1, 2, 3, 4, 5, 512, 513, 1000, 1023, 1024} {
		gens, size := all[:k], 1
		for size < k {
			size *= 2
		}
		// The first elements are those that exchange only the last pairs.
		if l := closure(t, 256, gens); !same(l, all[:size]) {
			t.Error(k, len(l))
		}
		if l := orbits(t, 256, gens); !same(l, joined(256, gens)) {
			t.Error(k, l)
		}
	}
	for _, k := range []int{1025, 1026, 2048, 4096} {
		areWrong(t, 256, all[:k], api.ErrLimit)
	}
	areWrong(t, 3, slices.Repeat([][]int{{1, 2, 0}}, 1025), api.ErrLimit)
	areWrong(t, 3, slices.Repeat([][]int{{1, 1, 0}}, 1025), api.ErrLimit)
	areWrong(t, 3, make([][]int, 1025), api.ErrLimit)
	areWrong(t, 0, make([][]int, 1025), api.ErrLimit)
	areWrong(t, 0, make([][]int, 1<<20), api.ErrLimit)
	if l := closure(t, 0, make([][]int, 1024)); len(l) != 1 || len(l[0]) != 0 {
		t.Error(l)
	}
	if l := closure(t, 3, slices.Repeat([][]int{{1, 2, 0}}, 1024)); len(l) != 3 {
		t.Error(l)
	}
	if l := orbits(t, 0, make([][]int, 1024)); len(l) != 0 {
		t.Error(l)
	}
}

// areWrong fails unless both functions report an error.
func areWrong(t *testing.T, n int, gens [][]int, want api.Errno) {
	t.Helper()
	if l, e := perms.Closure(n, gens); e != want || l != nil {
		t.Error(n, len(gens), len(l), e)
	}
	if l, e := perms.Orbits(n, gens); e != want || l != nil {
		t.Error(n, len(gens), len(l), e)
	}
}

// P11.2: the errors of generators, in their order.
func TestWrongGenerators(t *testing.T) {
	for _, n := range wrongCounts {
		for _, gens := range [][][]int{nil, {nil}, {{0}}, {{5}}, {identity(256)}, {identity(257)}, make([][]int, 1024), make([][]int, 1025)} {
			areWrong(t, n, gens, api.ErrArg)
		}
	}
	for _, n := range []int{1, 2, 3, 100, 255, 256} {
		for _, x := range slices.Concat(oddNumbers, []int{n}) {
			for _, i := range []int{0, n / 2, n - 1} {
				p := identity(n)
				p[i] = x
				areWrong(t, n, [][]int{p}, api.ErrPerm)
				areWrong(t, n, [][]int{identity(n), p}, api.ErrPerm)
				areWrong(t, n, [][]int{p, rotation(n)}, api.ErrPerm)
			}
		}
		areWrong(t, n, [][]int{nil}, api.ErrPerm)
		areWrong(t, n, [][]int{identity(n - 1)}, api.ErrPerm)
		areWrong(t, n, [][]int{identity(n + 1)}, api.ErrPerm)
		areWrong(t, n, [][]int{identity(n), identity(n + 1), identity(n)}, api.ErrPerm)
	}
	areWrong(t, 0, [][]int{nil, {0}}, api.ErrPerm)
	areWrong(t, 256, [][]int{identity(1000)}, api.ErrPerm)
	// A list that is no permutation is reported before the group that is too large.
	for _, x := range largeGroups() {
		areWrong(t, x.n, append(x.gens, make([]int, x.n)), api.ErrPerm)
	}
	full := slices.Repeat([][]int{{1, 2, 0}}, 1024)
	full[1023] = []int{0, 1, 1}
	areWrong(t, 3, full, api.ErrPerm)
}

// P11.2: the least and the greatest numbers of numbers.
func TestNumbersOfNumbers(t *testing.T) {
	if l := closure(t, 0, nil); len(l) != 1 || len(l[0]) != 0 {
		t.Error(l)
	}
	if l := orbits(t, 0, nil); len(l) != 0 {
		t.Error(l)
	}
	for n := 1; n <= mostNumbers; n++ {
		if l := closure(t, n, nil); !same(l, [][]int{identity(n)}) {
			t.Error(n, l)
		}
		if l := orbits(t, n, nil); len(l) != n || !same(l, joined(n, nil)) {
			t.Error(n, l)
		}
		if l := orbits(t, n, [][]int{rotation(n)}); !same(l, [][]int{identity(n)}) {
			t.Error(n, l)
		}
		want := [][]int{identity(n), reflection(n)}
		if n == 1 {
			want = want[:1]
		}
		if l := closure(t, n, [][]int{reflection(n)}); !same(l, want) {
			t.Error(n, l)
		}
	}
}

// P11.2: orbits of permutations that generate very large groups, and of many of them.
func TestOrbitsOfLargeGroups(t *testing.T) {
	r := source(5)
	for range 300 {
		n := 1 + r.IntN(mostNumbers)
		var gens [][]int
		for range r.IntN(n + 1) {
			gens = append(gens, cycle(n, r.Perm(n)[:min(n, 1+r.IntN(3))]...))
		}
		if l := orbits(t, n, gens); !same(l, joined(n, gens)) {
			t.Error(gens, l)
		}
	}
	var many [][]int
	for range mostGenerators {
		many = append(many, r.Perm(mostNumbers))
	}
	if l := orbits(t, mostNumbers, many); !same(l, [][]int{identity(mostNumbers)}) {
		t.Error(l)
	}
	if l, e := perms.Closure(mostNumbers, many); e != api.ErrLimit || l != nil {
		t.Error(len(l), e)
	}
}
