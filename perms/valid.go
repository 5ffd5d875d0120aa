package perms

import "gridwright/api"

// isCount reports whether there can be permutations of n numbers.
func isCount(n int) bool {
	return 0 <= n && n <= api.MaxCells
}

func isPermutation(p []int, n int) bool {
	if !isCount(n) || len(p) != n {
		return false
	}
	var occurs [api.MaxCells]bool
	for _, x := range p {
		if x < 0 || x >= n || occurs[x] {
			return false
		}
		occurs[x] = true
	}
	return true
}

func checkGenerators(n int, gens [][]int) api.Errno {
	if !isCount(n) {
		return api.ErrArg
	}
	if len(gens) > api.MaxGens {
		return api.ErrLimit
	}
	for _, p := range gens {
		if !isPermutation(p, n) {
			return api.ErrPerm
		}
	}
	return api.OK
}
