package graphs

// A set reports whether a node is in it.
type set func(x int) bool

func nodesOf(in []bool) set {
	return func(x int) bool { return in[x] }
}

// without is the set without a node.
func (s set) without(node int) set {
	return func(x int) bool { return x != node && s(x) }
}
