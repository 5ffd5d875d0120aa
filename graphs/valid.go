package graphs

import "gridwright/api"

func isGraph(g [][]int) bool {
	if len(g) > api.MaxCells {
		return false
	}
	for node, neighbors := range g {
		if !areNeighbors(neighbors, node, len(g)) {
			return false
		}
	}
	return isSymmetric(g)
}

// areNeighbors reports whether a list is strictly increasing and contains nodes other than a given one.
func areNeighbors(l []int, node, nodes int) bool {
	last := -1
	for _, x := range l {
		if x <= last || x >= nodes || x == node {
			return false
		}
		last = x
	}
	return true
}

// isSymmetric reports whether each node is a neighbor of its neighbors. The lists are increasing:
// so the nodes occur in each list in the order in which they are gone through, and the next one of each list is known.
func isSymmetric(g [][]int) bool {
	var next [api.MaxCells]int
	for node, neighbors := range g {
		for _, x := range neighbors {
			if next[x] == len(g[x]) || g[x][next[x]] != node {
				return false
			}
			next[x]++
		}
	}
	return true
}

func isSetOf(in []bool, g [][]int) bool { return len(in) == len(g) }

func isNode(x int, g [][]int) bool { return 0 <= x && x < len(g) }
