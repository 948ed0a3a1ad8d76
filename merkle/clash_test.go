package merkle_test

import (
	"bytes"
	"math"
	"slices"
	"testing"

	"wapentake/api"
	"wapentake/merkle"
)

// noClash fails the test if Clash returns anything.
func noClash(t *testing.T, why string, l [][]byte, i int, element []byte, path []api.Digest) {
	t.Helper()
	if a, b, ok := merkle.Clash(l, i, element, path); ok || len(a) != 0 || len(b) != 0 {
		t.Errorf("%s: %d of %d elements: %x, %x, %v", why, i, len(l), a, b, ok)
	}
}

// P3.3: the right element and path are no collision; with another element, or other digests at any places, all digests differ.
func TestClashOfNoCollision(t *testing.T) {
	forEachIndex(func(l [][]byte, i int, path []api.Digest) {
		noClash(t, "the right element and path", l, i, l[i], path)
		noClash(t, "another element", l, i, append(bytes.Clone(l[i]), '!'), path)
		noClash(t, "the next element", l, i, l[(i+1)%len(l)], path)
		noClash(t, "no element", l, i, nil, path)
		all := slices.Clone(path)
		for place := range path {
			wrong := slices.Clone(path)
			wrong[place][31] ^= 1
			all[place][0] ^= 1
			noClash(t, "another digest", l, i, l[i], wrong)
			noClash(t, "another digest and another element", l, i, []byte("another"), wrong)
		}
		noClash(t, "no right digest", l, i, l[i], all)
	})
}

// P3.3: an index that is not one of l.
func TestClashOfNoIndex(t *testing.T) {
	forEachIndex(func(l [][]byte, i int, path []api.Digest) {
		n := len(l)
		for _, j := range []int{math.MinInt, -n - 1, -n, -1, n, n + 1, n + i, i - n, math.MaxInt} {
			if j < 0 || j >= n {
				noClash(t, "no index", l, j, l[i], path)
				noClash(t, "no index, another element", l, j, []byte("another"), path)
				noClash(t, "no index, no path", l, j, l[i], nil)
			}
		}
	})
	for _, i := range []int{math.MinInt, -1, 0, 1, math.MaxInt} {
		noClash(t, "no elements", nil, i, nil, nil)
		noClash(t, "no elements", [][]byte{}, i, []byte("x"), make([]api.Digest, 1))
	}
}

// P3.3: a path that is too short or too long.
func TestClashOfPathsOfAnotherLength(t *testing.T) {
	forEachIndex(func(l [][]byte, i int, path []api.Digest) {
		for short := range path {
			noClash(t, "a short path", l, i, l[i], path[:short])
			noClash(t, "a short path", l, i, []byte("another"), path[short+1:])
		}
		for _, more := range []int{1, 2, 60, 1000} {
			long := append(slices.Clone(path), make([]api.Digest, more)...)
			noClash(t, "a long path", l, i, l[i], long)
			noClash(t, "a long path", l, i, []byte("another"), long)
			slices.Reverse(long)
			noClash(t, "a long path", l, i, l[i], long)
		}
	})
}
