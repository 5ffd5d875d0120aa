package perms

import (
	"slices"

	"gridwright/api"
)

// orbitsOf follows the generators alone, because the group may be too large; the inverse of a generator is one of its powers, so it is not needed.
func orbitsOf(n int, gens [][]int) (l [][]int) {
	var reached [api.MaxCells]bool
	for least := range n {
		if reached[least] {
			continue
		}
		reached[least] = true
		orbit := []int{least}
		for i := 0; i < len(orbit); i++ {
			for _, p := range gens {
				if x := p[orbit[i]]; !reached[x] {
					reached[x] = true
					orbit = append(orbit, x)
				}
			}
		}
		slices.Sort(orbit)
		l = append(l, orbit)
	}
	return l
}
