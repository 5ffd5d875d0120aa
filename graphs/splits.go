package graphs

import "gridwright/api"

// separates reports whether two of some nodes are connected through a node of a set only.
// Such nodes are in parts of the rest of the set that have different neighbors of the node.
func separates(g [][]int, in, some set, at int) bool {
	rest := in.without(at)
	var seen [api.MaxCells]bool
	parts := 0 // parts that have one of these nodes
	separated := false
search:
	for _, neighbor := range g[at] {
		if !rest(neighbor) || seen[neighbor] {
			continue
		}
		has := false
		for x := range connected(g, rest, neighbor) {
			seen[x] = true
			has = has || some(x)
			if has && parts > 0 {
				separated = true
				break search
			}
		}
		if has {
			parts++
		}
	}
	return separated
}
