package network

import (
	"cmp"
	"iter"
	"slices"

	"gridwright/api"
)

// between returns the pair of two parties in the order in which a cut names them.
func between(a, b int) [2]int {
	return [2]int{min(a, b), max(a, b)}
}

// inOrder compares pairs by their first number, then by their second one.
func inOrder(a, b [2]int) int {
	return cmp.Or(cmp.Compare(a[0], b[0]), cmp.Compare(a[1], b[1]))
}

// isCut reports whether the link of a packet is cut.
func isCut(n api.Net, p api.Packet) bool {
	return slices.Contains(n.Apart, between(p.From, p.To))
}

// others yields the pairs of a list but one.
func others(l [][2]int, link [2]int) iter.Seq[[2]int] {
	return func(yield func([2]int) bool) {
		for _, pair := range l {
			if pair != link && !yield(pair) {
				return
			}
		}
	}
}
