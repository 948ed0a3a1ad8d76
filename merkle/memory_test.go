package merkle_test

import (
	"bytes"
	"slices"
	"testing"

	"wapentake/api"
	"wapentake/merkle"
)

// spoil changes all bytes, those that append would reach as well.
func spoil(b []byte) {
	b = b[:cap(b)]
	for i := range b {
		b[i] ^= 255
	}
}

func toStrings(l [][]byte) []string {
	var s []string
	for _, b := range l {
		s = append(s, string(b))
	}
	return s
}

// roomy is a list whose elements are pieces of one text, and a path, each with room behind it that is not theirs.
type roomy struct {
	text []byte
	list [][]byte
	path []api.Digest
}

// newRoomy returns a list of n elements, and an index's path.
func newRoomy(n, i int) roomy {
	r := roomy{text: bytes.Repeat([]byte("abcdefg"), n+1), list: make([][]byte, n, n+3)}
	for j := range r.list {
		r.list[j] = r.text[7*j : 7*j+j%8]
	}
	path := strong().path(r.list, i)
	r.path = append(make([]api.Digest, 0, len(path)+3), path...)
	return r
}

// same tells whether nothing changed, in the lists and behind them.
func (r roomy) same(n, i int) bool {
	fresh := newRoomy(n, i)
	return bytes.Equal(r.text, fresh.text) && slices.EqualFunc(r.list[:cap(r.list)], fresh.list[:cap(fresh.list)], bytes.Equal) &&
		slices.Equal(r.path[:cap(r.path)], fresh.path[:cap(fresh.path)])
}

// R3: no function changes its arguments, nor what stands behind them.
func TestArgumentsAreNotChanged(t *testing.T) {
	for n := 1; n <= 18; n++ {
		for i := range n {
			r := newRoomy(n, i)
			root := merkle.Root(r.list)
			merkle.Prove(r.list, i)
			merkle.Prove(r.list, -1)
			if !r.same(n, i) {
				t.Fatalf("%d elements: Root or Prove of %d changed the list", n, i)
			}
			for _, path := range [][]api.Digest{r.path, r.path[:len(r.path)/2], r.path[:cap(r.path)]} {
				merkle.Verify(root, n, i, r.list[i], path)
				merkle.Clash(r.list, i, r.list[i], path)
				merkle.Clash(r.list, i, r.text, path)
			}
			if !r.same(n, i) {
				t.Fatalf("%d elements: Verify or Clash of %d changed an argument", n, i)
			}
		}
	}
}

// R3: a path belongs to the caller: it shares no memory with the list, nor with another path.
func TestProveSharesNoMemory(t *testing.T) {
	h := strong()
	for n := 1; n <= 18; n++ {
		for i := range n {
			l := listsOf(n)[0]
			want := h.path(l, i)
			path, _ := merkle.Prove(l, i)
			other, _ := merkle.Prove(l, i)
			clear(path[:cap(path)])
			if !slices.Equal(other, want) {
				t.Fatalf("%d of %d elements: a path changed with another one", i, n)
			}
			if !slices.Equal(toStrings(l), toStrings(listsOf(n)[0])) {
				t.Fatalf("%d of %d elements: the list changed with a path", i, n)
			}
			for j := range l {
				spoil(l[j])
			}
			clear(l)
			if !slices.Equal(other, want) {
				t.Fatalf("%d of %d elements: a path changed with the list", i, n)
			}
		}
	}
}

// R4: the same calls have the same results, whatever was called between them.
func TestSameCallsAgain(t *testing.T) {
	l := listsOf(11)[0]
	root, path := merkle.Root(l), strong().path(l, 5)
	for n := range 18 {
		for _, other := range listsOf(n) {
			merkle.Root(other)
			merkle.Prove(other, n/2)
			merkle.Verify(root, n, n/2, nil, path)
			merkle.Clash(other, n/2, nil, path)
			again, ok := merkle.Prove(l, 5)
			if merkle.Root(l) != root || !ok || !slices.Equal(again, path) || !merkle.Verify(root, 11, 5, l[5], path) || merkle.Verify(root, 11, 6, l[5], path) {
				t.Fatal("the same call has another result")
			}
		}
	}
}
