package merkle_test

import (
	"bytes"
	"encoding/hex"
	"fmt"
	"math"
	"slices"
	"strings"
	"testing"

	"wapentake/api"
	"wapentake/merkle"
	"wapentake/sha"
)

// texts returns a list of elements.
func texts(l ...string) [][]byte {
	list := make([][]byte, 0, len(l))
	for _, s := range l {
		list = append(list, []byte(s))
	}
	return list
}

// listsOf returns lists of n elements: different ones, equal ones, empty ones, and ones of many lengths.
func listsOf(n int) [][][]byte {
	different, equal, empty, lengths := make([][]byte, n), make([][]byte, n), make([][]byte, n), make([][]byte, n)
	for i := range n {
		different[i] = fmt.Appendf(nil, "element %d", i)
		equal[i] = []byte("same")
		empty[i] = []byte{}
		lengths[i] = bytes.Repeat([]byte{byte(i)}, 37*i%150)
	}
	return [][][]byte{different, equal, empty, lengths, make([][]byte, n)}
}

// sizes are lengths of lists: all small ones, and those around greater powers of 2.
func sizes() []int {
	l := []int{63, 64, 65, 66, 100, 127, 128, 129}
	for n := range 35 {
		l = append(l, n)
	}
	return l
}

// letters returns the list of the first n letters.
func letters(n int) [][]byte {
	var l [][]byte
	for i := range n {
		l = append(l, []byte{byte('a' + i)})
	}
	return l
}

// P3.1: roots that were computed by another program.
func TestKnownRoots(t *testing.T) {
	for _, c := range []struct {
		list [][]byte
		want string
	}{
		{nil, "905dc6c7bd1f55fd6c699025f9b2ca1e28881ef71de7f0ecd75ba7ae4dc8271b"},
		{[][]byte{}, "905dc6c7bd1f55fd6c699025f9b2ca1e28881ef71de7f0ecd75ba7ae4dc8271b"},
		{texts(""), "cc4bbab92b360b4a129c86da7ad302d52a570bda3b39e6646db8b9648a33213f"},
		{[][]byte{nil}, "cc4bbab92b360b4a129c86da7ad302d52a570bda3b39e6646db8b9648a33213f"},
		{letters(1), "fc28d057dd51d402494070a3f547bc05aa512a4c2b57f29e31bd064ade2ea4b0"},
		{letters(2), "8c8b508bb1da0772e7a59d1522092fee3987a12011976488df67b844f57dd205"},
		{texts("", ""), "070a3ccceae4a7e45f1eef0307d62e68e1e3384dc559f7fff21a143f444570c4"},
		{letters(3), "2469990b7d4e673700c1467085805662185325221c3d94463fc858e312d8a53e"},
		{letters(4), "fd2c8dc866413fb2f17dd5a8ac14c85cf367cc0916a3c2d2baf1d7d9fcb22482"},
		{letters(5), "be2969be5cebb9f1d40482ceede868ea263dfcd084b4f7894ccf4183347d915d"},
		{letters(17), "ae4091c50fc300734fcbd58d3f4ffb3169cbbbbf0f46606966f68abc844ad77c"},
		{slices.Repeat(texts(strings.Repeat("\x00", 100)), 300), "a917fba35809f29b3f8ec9f021e6cf51ac02fc54eb94d776fbef3108d3b8debc"},
	} {
		if d := merkle.Root(c.list); hex.EncodeToString(d[:]) != c.want {
			t.Errorf("the root of %d elements: %x, want %s", len(c.list), d, c.want)
		}
	}
}

// The chapter's table of examples.
func TestExamples(t *testing.T) {
	zero := make([]byte, 8)
	none := sha.Of([]byte("none"))
	if merkle.Root(nil) != sha.Of([]byte("list"), zero, none[:]) {
		t.Error("the root of no elements")
	}
	a, b, c := sha.Of([]byte("leaf"), []byte("a")), sha.Of([]byte("leaf"), []byte("b")), sha.Of([]byte("leaf"), []byte("c"))
	ab := sha.Of([]byte("node"), a[:], b[:])
	if path, ok := merkle.Prove(letters(3), 2); !ok || !slices.Equal(path, []api.Digest{ab}) {
		t.Errorf("the path of 2 of 3: %x, %v", path, ok)
	}
	if path, ok := merkle.Prove(letters(3), 0); !ok || !slices.Equal(path, []api.Digest{b, c}) {
		t.Errorf("the path of 0 of 3: %x, %v", path, ok)
	}
	if merkle.Verify(merkle.Root(letters(3)), 3, 3, []byte("c"), []api.Digest{ab}) {
		t.Error("the index 3 of 3 is verified")
	}
}

// P3.1: roots and paths are those of the chapter's words, for each index.
func TestRootsAndPaths(t *testing.T) {
	h := strong()
	for _, n := range sizes() {
		for kind, l := range listsOf(n) {
			if merkle.Root(l) != h.root(l) {
				t.Errorf("list %d of %d elements: a wrong root", kind, n)
			}
			for i := range n {
				if path, ok := merkle.Prove(l, i); !ok || !slices.Equal(path, h.path(l, i)) {
					t.Errorf("list %d of %d elements: a wrong path of %d: %x, %v", kind, n, i, path, ok)
				}
			}
		}
	}
}

// P3.1: there is no path of what is not in the list.
func TestProveOfNoElement(t *testing.T) {
	for _, n := range sizes() {
		for _, l := range listsOf(n) {
			for _, i := range []int{math.MinInt, -n - 1, -n, -2, -1, n, n + 1, 2*n + 1, math.MaxInt - 1, math.MaxInt} {
				if i >= 0 && i < n { // -0
					continue
				}
				if path, ok := merkle.Prove(l, i); ok || len(path) != 0 {
					t.Errorf("%d of %d elements: %x, %v", i, n, path, ok)
				}
			}
		}
	}
	if path, ok := merkle.Prove(nil, 0); ok || len(path) != 0 {
		t.Errorf("0 of nil: %x, %v", path, ok)
	}
}

// P3.1: lists that are nearly alike have different roots.
func TestRootTellsListsApart(t *testing.T) {
	seen := map[api.Digest][][]byte{}
	add := func(l [][]byte) {
		root := merkle.Root(l)
		if other, ok := seen[root]; ok {
			t.Errorf("%q and %q have one root", l, other)
		}
		seen[root] = l
	}
	add(nil)
	for n := 1; n <= 17; n++ {
		add(letters(n))
		add(slices.Repeat(texts(""), n))
		for i := range n - 1 {
			l := letters(n)
			l[i], l[i+1] = l[i+1], l[i]
			add(l)
		}
		for i := range n {
			l := letters(n)
			l[i] = append(l[i], 0)
			add(l)
			l = letters(n)
			l[i] = []byte{0}
			add(l)
			add(slices.Insert(letters(n), i, nil))
		}
	}
	a, b := sha.Of([]byte("leaf"), []byte("a")), sha.Of([]byte("leaf"), []byte("b"))
	add([][]byte{sha.Join([]byte("node"), a[:], b[:])})
	add([][]byte{append(a[:], b[:]...)})
}
