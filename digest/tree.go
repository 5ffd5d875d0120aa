package digest

import (
	"math/bits"

	"gridwright/api"
)

// maxElements is the greatest length of a list in which Climb climbs.
const maxElements = 1 << 40

// split returns the greatest power of 2 that is less than n, for n > 1.
func split(n int) int {
	return 1 << (bits.Len(uint(n-1)) - 1)
}

func leaf(d api.Digest) api.Digest {
	return Tagged("leaf", d[:])
}

func pair(tag string, first, second api.Digest) api.Digest {
	both := make([]byte, 0, len(first)+len(second))
	both = append(both, first[:]...)
	both = append(both, second[:]...)
	return Tagged(tag, both)
}

// pathOf returns the path of the element with the index at, which l has.
func pathOf(l []api.Digest, at int) []api.Digest {
	if len(l) == 1 {
		return nil
	}
	k := split(len(l))
	if at < k {
		return append(pathOf(l[:k], at), Tree(l[k:]))
	}
	return append(pathOf(l[k:], at-k), Tree(l[:k]))
}

// pathLength returns the number of elements of the path of the element with the index at in a list of n elements.
func pathLength(at, n int) (length int) {
	for n > 1 {
		k := split(n)
		if at < k {
			n = k
		} else {
			at, n = at-k, n-k
		}
		length++
	}
	return length
}

// climb returns the digest of a list of n elements, for a path with as many elements as it must have.
func climb(d api.Digest, at, n int, path []api.Digest) api.Digest {
	if n == 1 {
		return leaf(d)
	}
	k, last := split(n), len(path)-1
	if at < k {
		return pair("node", climb(d, at, k, path[:last]), path[last])
	}
	return pair("node", path[last], climb(d, at-k, n-k, path[:last]))
}
