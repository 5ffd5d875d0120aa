package graphs

// isRing counts the nodes of a set, and those that are connected with one of them.
func isRing(g [][]int, in set) bool {
	nodes, start := 0, 0
	for x := range g {
		if !in(x) {
			continue
		}
		if neighborsIn(g, in, x) != 2 {
			return false
		}
		nodes, start = nodes+1, x
	}
	return nodes >= 3 && len(component(g, in, start)) == nodes
}

func neighborsIn(g [][]int, in set, node int) (n int) {
	for _, x := range g[node] {
		if in(x) {
			n++
		}
	}
	return n
}
