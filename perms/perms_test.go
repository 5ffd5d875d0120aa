package perms_test

import (
	"slices"
	"testing"

	"gridwright/api"
	"gridwright/perms"
)

// P11.1: Check, for all lists of up to four small numbers and all small n.
func TestCheckOfSmallLists(t *testing.T) {
	for length := range 5 {
		for _, p := range listsOf(length, -1, 4) {
			for n := -2; n < 7; n++ {
				want := api.OK
				if n < 0 {
					want = api.ErrArg
				} else if !isPermutation(p, n) {
					want = api.ErrPerm
				}
				if e := perms.Check(p, n); e != want {
					t.Error(p, n, e, want)
				}
			}
		}
	}
}

// P11.1: n is between 0 and 256, which is checked before the list.
func TestCheckOfCounts(t *testing.T) {
	for n := range mostNumbers + 1 {
		for _, p := range [][]int{identity(n), reflection(n), rotation(n), source(uint64(n)).Perm(n)} {
			if e := perms.Check(p, n); e != api.OK {
				t.Error(n, e)
			}
			for _, other := range []int{n - 1, n + 1} {
				want := api.ErrPerm
				if other < 0 || other > mostNumbers {
					want = api.ErrArg
				}
				if e := perms.Check(p, other); e != want {
					t.Error(n, other, e)
				}
			}
		}
	}
	for _, n := range wrongCounts {
		for _, p := range [][]int{nil, {0}, {0, 0}, {-1}, identity(256), identity(257), identity(258), identity(1000)} {
			if e := perms.Check(p, n); e != api.ErrArg {
				t.Error(len(p), n, e)
			}
		}
	}
}

// P11.1: a list in which one element is another number, wherever it is.
func TestCheckOfOtherNumbers(t *testing.T) {
	r := source(1)
	for _, n := range []int{1, 2, 3, 100, 255, 256} {
		for i := range n {
			p := r.Perm(n)
			old := p[i]
			for _, x := range slices.Concat(oddNumbers, []int{n, n + 1, old - 1, old + 1, old + 256, old - 256, old + 1<<32}) {
				p[i] = x
				want := api.ErrPerm
				if x == old {
					want = api.OK
				}
				if e := perms.Check(p, n); e != want {
					t.Error(n, i, x, e)
				}
			}
		}
	}
}

// P11.1: lists that are too long, also very much.
func TestCheckOfLongLists(t *testing.T) {
	for _, length := range []int{257, 258, 512, 1 << 20} {
		p := identity(length)
		for n := range mostNumbers + 1 {
			if e := perms.Check(p, n); e != api.ErrPerm {
				t.Error(length, n, e)
			}
		}
	}
}

// P11.1: Compose, for all pairs of lists of up to three small numbers.
func TestComposeOfSmallLists(t *testing.T) {
	lists := slices.Concat(listsOf(0, 0, 0), listsOf(1, -1, 1), listsOf(2, -1, 2), listsOf(3, -1, 3))
	for _, a := range lists {
		for _, b := range lists {
			c, e := perms.Compose(a, b)
			if len(a) == len(b) && isPermutation(a, len(a)) && isPermutation(b, len(b)) {
				if e != api.OK || !slices.Equal(c, composed(a, b)) {
					t.Error(a, b, c, e)
				}
			} else if e != api.ErrPerm || c != nil {
				t.Error(a, b, c, e)
			}
		}
	}
}

// P11.1: Compose, for all pairs of permutations of up to five numbers, and long ones.
func TestCompose(t *testing.T) {
	for n := range 6 {
		all := permutationsOf(n)
		for _, a := range all {
			for _, b := range all {
				if c := compose(t, a, b); !slices.Equal(c, composed(a, b)) {
					t.Error(a, b, c)
				}
			}
		}
	}
	r := source(2)
	for range 1000 {
		n := r.IntN(mostNumbers + 1)
		a, b := r.Perm(n), r.Perm(n)
		if c := compose(t, a, b); !slices.Equal(c, composed(a, b)) {
			t.Error(a, b, c)
		}
	}
	if c := compose(t, []int{1, 2, 0}, []int{1, 0, 2}); !slices.Equal(c, []int{2, 1, 0}) {
		t.Error(c)
	}
}

// P11.1: lists that cannot be composed, on both sides.
func TestComposeOfWrongLists(t *testing.T) {
	wrong := func(a, b []int) {
		t.Helper()
		if c, e := perms.Compose(a, b); e != api.ErrPerm || c != nil {
			t.Error(len(a), len(b), c, e)
		}
		if c, e := perms.Compose(b, a); e != api.ErrPerm || c != nil {
			t.Error(len(b), len(a), c, e)
		}
	}
	for _, n := range []int{257, 258, 300, 1 << 17} {
		wrong(identity(n), identity(n))
		wrong(identity(n), identity(256))
		wrong(identity(n), nil)
	}
	for _, n := range []int{1, 2, 3, 100, 255, 256} {
		wrong(identity(n), identity(n-1))
		wrong(identity(n), nil)
		for _, x := range slices.Concat(oddNumbers, []int{n}) {
			for _, i := range []int{0, n / 2, n - 1} {
				p := identity(n)
				p[i] = x
				wrong(p, identity(n))
				wrong(p, p)
			}
		}
	}
	wrong([]int{0, 1}, []int{0, 1, 2})
	wrong([]int{0, 0}, []int{0, 1})
}

// P11.1: Inverse, for all lists of up to four small numbers.
func TestInverseOfSmallLists(t *testing.T) {
	for length := range 5 {
		for _, p := range listsOf(length, -1, 4) {
			q, e := perms.Inverse(p)
			if !isPermutation(p, length) {
				if e != api.ErrPerm || q != nil {
					t.Error(p, q, e)
				}
				continue
			}
			if e != api.OK || len(q) != length {
				t.Fatal(p, q, e)
			}
			for i, x := range p {
				if q[x] != i {
					t.Error(p, q)
				}
			}
		}
	}
}

// P11.1: Inverse, for permutations of each size, and for lists that are none.
func TestInverse(t *testing.T) {
	r := source(3)
	for n := range mostNumbers + 1 {
		p := r.Perm(n)
		q := inverse(t, p)
		if !isPermutation(q, n) {
			t.Fatal(p, q)
		}
		for i, x := range p {
			if q[x] != i {
				t.Error(p, q)
			}
		}
		for _, x := range slices.Concat(oddNumbers, []int{n}) {
			if n > 0 {
				p[r.IntN(n)] = x
				if q, e := perms.Inverse(p); e != api.ErrPerm || q != nil {
					t.Error(p, q, e)
				}
			}
		}
	}
	for _, n := range []int{257, 258, 512, 1 << 17} {
		if q, e := perms.Inverse(identity(n)); e != api.ErrPerm || q != nil {
			t.Error(n, len(q), e)
		}
	}
	if q := inverse(t, []int{2, 0, 1, 3}); !slices.Equal(q, []int{1, 2, 0, 3}) {
		t.Error(q)
	}
}

// P11.1, P11.2: the examples of the chapter.
func TestExamples(t *testing.T) {
	if e := perms.Check(nil, 0); e != api.OK {
		t.Error(e)
	}
	if e := perms.Check([]int{0, 0}, 2); e != api.ErrPerm {
		t.Error(e)
	}
	if l := closure(t, 2, nil); !same(l, [][]int{{0, 1}}) {
		t.Error(l)
	}
	if l, e := perms.Closure(8, [][]int{cycle(8, 0, 1), rotation(8)}); e != api.ErrLimit || l != nil {
		t.Error(len(l), e)
	}
	if l := orbits(t, 3, [][]int{cycle(3, 0, 2)}); !same(l, [][]int{{0, 2}, {1}}) {
		t.Error(l)
	}
	if l := closure(t, 3, [][]int{{1, 2, 0}}); !same(l, [][]int{{0, 1, 2}, {1, 2, 0}, {2, 0, 1}}) {
		t.Error(l)
	}
	if l := orbits(t, 3, [][]int{{1, 2, 0}}); !same(l, [][]int{{0, 1, 2}}) {
		t.Error(l)
	}
}
