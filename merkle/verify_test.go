package merkle_test

import (
	"bytes"
	"math"
	"math/rand"
	"slices"
	"testing"

	"wapentake/api"
	"wapentake/merkle"
)

// forEachIndex calls f for each index of lists of one to eighteen elements, and of two longer ones.
func forEachIndex(f func(l [][]byte, i int, path []api.Digest)) {
	var lists [][][]byte
	for n := 1; n <= 18; n++ {
		lists = append(lists, listsOf(n)...)
	}
	lists = append(lists, listsOf(33)[0], listsOf(64)[0])
	h := strong()
	for _, l := range lists {
		for i := range l {
			f(l, i, h.path(l, i))
		}
	}
}

// P3.2, P3.4: what Prove returns is accepted.
func TestVerifyOfProve(t *testing.T) {
	forEachIndex(func(l [][]byte, i int, _ []api.Digest) {
		path, _ := merkle.Prove(l, i)
		if !merkle.Verify(merkle.Root(l), len(l), i, l[i], path) {
			t.Errorf("%d of %d elements is not accepted", i, len(l))
		}
	})
}

// P3.2: another element, another digest at any place, another root.
func TestVerifyOfChanged(t *testing.T) {
	h := strong()
	forEachIndex(func(l [][]byte, i int, path []api.Digest) {
		n, root := len(l), h.root(l)
		for _, element := range [][]byte{append([]byte{0}, l[i]...), append(bytes.Clone(l[i]), 0), []byte("another"), []byte(join("leaf", string(l[i])))} {
			if merkle.Verify(root, n, i, element, path) {
				t.Errorf("%d of %d elements: %q is accepted for %q", i, n, element, l[i])
			}
		}
		if len(l[i]) > 0 && merkle.Verify(root, n, i, nil, path) {
			t.Errorf("%d of %d elements: nil is accepted for %q", i, n, l[i])
		}
		for place := range path {
			for _, at := range []int{0, 15, 31} {
				wrong := slices.Clone(path)
				wrong[place][at] ^= 1
				if merkle.Verify(root, n, i, l[i], wrong) {
					t.Errorf("%d of %d elements: a changed digest %d is accepted", i, n, place)
				}
			}
		}
		if back := slices.Clone(path); len(path) > 1 && path[0] != path[len(path)-1] {
			slices.Reverse(back)
			if merkle.Verify(root, n, i, l[i], back) {
				t.Errorf("%d of %d elements: a path from the root inwards is accepted", i, n)
			}
		}
		for at := range root {
			wrong := root
			wrong[at] ^= 128
			if merkle.Verify(wrong, n, i, l[i], path) {
				t.Errorf("%d of %d elements: a root with another byte %d is accepted", i, n, at)
			}
		}
		if merkle.Verify(api.Digest{}, n, i, l[i], path) || merkle.Verify(h(h.preimage(l)), n, i, l[i], path) {
			t.Errorf("%d of %d elements: what is not the root is accepted", i, n)
		}
	})
}

// P3.2: the element with another index, and a list of another length, are told apart, where the path fits and where not.
func TestVerifyOfAnotherPlace(t *testing.T) {
	h := strong()
	for n := 1; n <= 20; n++ {
		l := listsOf(n)[0]
		root := h.root(l)
		for i := range n {
			path := h.path(l, i)
			for m := -2; m <= 40; m++ {
				for j := -2; j <= 40; j++ {
					if got := merkle.Verify(root, m, j, l[i], path); got != (m == n && j == i) {
						t.Errorf("%d of %d elements as %d of %d: %v", i, n, j, m, got)
					}
				}
			}
		}
	}
}

// P3.2: no index is below 0, nor at n or beyond, even if the root is computed as though there were one.
func TestVerifyOfNoIndex(t *testing.T) {
	h := strong()
	forEachIndex(func(l [][]byte, i int, path []api.Digest) {
		n := len(l)
		for _, j := range []int{math.MinInt, math.MinInt + 1, -n - 1, -n, -1, n, n + 1, 2 * n, n + i, i - n, math.MaxInt - 1, math.MaxInt} {
			if j >= 0 && j < n {
				continue
			}
			if merkle.Verify(h.root(l), n, j, l[i], path) {
				t.Errorf("%d of %d elements as %d is accepted", i, n, j)
			}
		}
		for _, m := range []int{math.MinInt, math.MinInt + 1, -n, -1, 0, i} {
			root := h(rootPreimage(m, h(h.preimage(l))))
			for _, j := range []int{math.MinInt, -1, 0, i, math.MaxInt} {
				if j >= 0 && j < m {
					continue
				}
				if merkle.Verify(root, m, j, l[i], path) || merkle.Verify(root, m, j, l[i], nil) {
					t.Errorf("%d of %d elements as %d of %d is accepted", i, n, j, m)
				}
			}
		}
	})
	for _, n := range []int{math.MinInt, -1, 0, 1} {
		for _, i := range []int{math.MinInt, -1, 0, 1, math.MaxInt} {
			for _, d := range []api.Digest{h(join("none")), h(join("leaf", "")), {}} {
				want := n == 1 && i == 0 && d == h(join("leaf", ""))
				if got := merkle.Verify(h(rootPreimage(n, d)), n, i, nil, nil); got != want {
					t.Errorf("%d of %d elements, no path: %v", i, n, got)
				}
			}
		}
	}
}

// folds returns the roots for n elements that a path of any length leads to, whichever side each digest is on.
func folds(h reference, n int, d api.Digest, path []api.Digest) []api.Digest {
	ends := []api.Digest{d}
	for _, sibling := range path {
		var outer []api.Digest
		for _, d := range ends {
			outer = append(outer, h(join("node", str(d), str(sibling))), h(join("node", str(sibling), str(d))))
		}
		ends = outer
	}
	for i, d := range ends {
		ends[i] = h(rootPreimage(n, d))
	}
	return ends
}

// P3.2: a path of another length is not accepted, for the list's root, and for any root that such a path leads to.
func TestVerifyOfPathsOfAnotherLength(t *testing.T) {
	h := strong()
	for n := 1; n <= 18; n++ {
		l := listsOf(n)[0]
		for i := range n {
			path := h.path(l, i)
			wrong := [][]api.Digest{
				append(slices.Clone(path), api.Digest{}), append([]api.Digest{{}}, path...),
				append(slices.Clone(path), h("x")), append(slices.Clone(path), slices.Repeat([]api.Digest{{1}}, 4)...),
			}
			for short := range path {
				wrong = append(wrong, path[:short], path[short+1:])
			}
			for _, p := range wrong {
				if merkle.Verify(h.root(l), n, i, l[i], p) {
					t.Errorf("%d of %d elements: %d digests are accepted", i, n, len(p))
				}
				for _, root := range folds(h, n, h(join("leaf", string(l[i]))), p) {
					if merkle.Verify(root, n, i, l[i], p) {
						t.Errorf("%d of %d elements: %d digests are accepted for a root that is made of them", i, n, len(p))
					}
				}
			}
			for _, many := range []int{63, 64, 65, 1000, 1 << 16} {
				p := slices.Repeat([]api.Digest{{2}}, many)
				copy(p, path)
				if merkle.Verify(h.root(l), n, i, l[i], p) {
					t.Errorf("%d of %d elements: %d digests are accepted", i, n, len(p))
				}
				copy(p[many-len(path):], path)
				if merkle.Verify(h.root(l), n, i, l[i], p) {
					t.Errorf("%d of %d elements: %d digests, the path last, are accepted", i, n, len(p))
				}
			}
		}
	}
}

// P3.2, R1: lists that are too long to be made.
func TestVerifyOfLongLists(t *testing.T) {
	h, random := strong(), rand.New(rand.NewSource(1))
	for _, n := range []int{1 << 20, 1<<31 - 1, 1 << 31, 1<<31 + 1, 1<<40 + 3, math.MaxInt/2 + 1, math.MaxInt/2 + 2, math.MaxInt - 1, math.MaxInt} {
		for _, i := range []int{0, 1, n / 3, n / 2, cut(n) - 1, cut(n), n - 2, n - 1, random.Intn(n)} {
			path := make([]api.Digest, levels(n, i))
			for j := range path {
				random.Read(path[j][:])
			}
			preimages, _ := h.computed(n, i, "element", path)
			root := h(preimages[0])
			if !merkle.Verify(root, n, i, []byte("element"), path) {
				t.Errorf("%d of %d elements is not accepted", i, n)
			}
			if merkle.Verify(root, n, i, []byte("elements"), path) || merkle.Verify(root, n-1, i, []byte("element"), path) ||
				merkle.Verify(root, n, i^1, []byte("element"), path) || merkle.Verify(root, n, i, []byte("element"), path[1:]) ||
				merkle.Verify(root, n, i, []byte("element"), append(path, api.Digest{})) || merkle.Verify(root, n, n, []byte("element"), path) ||
				merkle.Verify(root, -n, i, []byte("element"), path) || merkle.Verify(root, n, -1-i, []byte("element"), path) {
				t.Errorf("%d of %d elements: another one is accepted", i, n)
			}
			for place := range path {
				path[place][place%32] ^= 16
				if merkle.Verify(root, n, i, []byte("element"), path) {
					t.Errorf("%d of %d elements: a changed digest %d is accepted", i, n, place)
				}
				path[place][place%32] ^= 16
			}
		}
	}
}

// P3.2: Verify is what the chapter's words say, for elements and digests in any order.
func TestVerifyOfAnything(t *testing.T) {
	h, random := strong(), rand.New(rand.NewSource(2))
	accepted := 0
	for range 20000 {
		n, i := random.Intn(20)-1, random.Intn(20)-1
		path := make([]api.Digest, random.Intn(7))
		for j := range path {
			path[j][0] = byte(random.Intn(3))
		}
		var root api.Digest
		if preimages, ok := h.computed(n, i, "x", path); ok && random.Intn(2) == 0 {
			root = h(preimages[0])
		}
		got, want := merkle.Verify(root, n, i, []byte("x"), path), h.verify(root, n, i, "x", path)
		if got != want {
			t.Errorf("%d of %d elements, path %x: %v", i, n, path, got)
		}
		if want {
			accepted++
		}
	}
	if accepted < 100 {
		t.Errorf("only %d are accepted: the test is idle", accepted)
	}
}
