package facts

import (
	"cmp"
	"iter"

	"gridwright/api"
	"gridwright/spans"
)

// The greatest numbers of a valid fact that are no limits of package api.
const (
	maxKind    = 15
	maxSubject = 4095
	maxObject  = 1023
	maxNo      = 65535
)

func valid(f api.Fact) bool {
	return within(f.Key.Kind, 0, maxKind) &&
		within(f.Key.Subject, 0, maxSubject) &&
		within(f.Key.Object, 0, maxObject) &&
		within(f.Value, none, api.MaxFact) &&
		spans.Check([]api.Span{f.Valid}) == api.OK &&
		within(f.Known, 1, api.MaxKnown) &&
		within(f.No, 0, maxNo)
}

func within(n, least, greatest int) bool {
	return least <= n && n <= greatest
}

// inOrder compares facts by the time from which they are known, then by their numbers.
func inOrder(f, g api.Fact) int {
	return cmp.Or(cmp.Compare(f.Known, g.Known), cmp.Compare(f.No, g.No))
}

func byKey(a, b api.Key) int {
	return cmp.Or(cmp.Compare(a.Kind, b.Kind), cmp.Compare(a.Subject, b.Subject), cmp.Compare(a.Object, b.Object))
}

// about yields the facts of a key that are known at a time.
func about(l []api.Fact, k api.Key, known int) iter.Seq[api.Fact] {
	return func(yield func(api.Fact) bool) {
		for _, f := range l {
			if f.Key == k && f.Known <= known && !yield(f) {
				return
			}
		}
	}
}

func kept(l []api.Fact, keep func(api.Fact) bool) (x []api.Fact) {
	for _, f := range l {
		if keep(f) {
			x = append(x, f)
		}
	}
	return x
}
