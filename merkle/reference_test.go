package merkle_test

import (
	"crypto/sha256"
	"encoding/binary"

	"wapentake/api"
)

// reference is the chapter's words once more, over a function from bytes to digests: from the root inwards, by recursion.
type reference func(string) api.Digest

// strong is over SHA-256.
func strong() reference {
	return func(s string) api.Digest { return sha256.Sum256([]byte(s)) }
}

func num(n int) string {
	return string(binary.BigEndian.AppendUint64(nil, uint64(n)))
}

func join(parts ...string) string {
	joined := num(len(parts))
	for _, p := range parts {
		joined += num(len(p)) + p
	}
	return joined
}

func str(d api.Digest) string { return string(d[:]) }

// cut returns the greatest power of 2 below n.
func cut(n int) int {
	k := 1
	for k < n-k {
		k += k
	}
	return k
}

func (h reference) preimage(l [][]byte) string {
	switch n := len(l); n {
	case 0:
		return join("none")
	case 1:
		return join("leaf", string(l[0]))
	default:
		return join("node", str(h(h.preimage(l[:cut(n)]))), str(h(h.preimage(l[cut(n):]))))
	}
}

func rootPreimage(n int, d api.Digest) string {
	return join("list", num(n), str(d))
}

func (h reference) root(l [][]byte) api.Digest {
	return h(rootPreimage(len(l), h(h.preimage(l))))
}

// along returns the preimages of l's digests along the path of an index, from the root's inwards.
func (h reference) along(l [][]byte, i int) []string {
	preimages := []string{rootPreimage(len(l), h(h.preimage(l))), h.preimage(l)}
	for len(l) > 1 {
		if k := cut(len(l)); i < k {
			l = l[:k]
		} else {
			l, i = l[k:], i-k
		}
		preimages = append(preimages, h.preimage(l))
	}
	return preimages
}

// path returns the path of an index.
func (h reference) path(l [][]byte, i int) []api.Digest {
	if len(l) == 1 {
		return nil
	}
	k := cut(len(l))
	if i < k {
		return append(h.path(l[:k], i), h(h.preimage(l[k:])))
	}
	return append(h.path(l[k:], i-k), h(h.preimage(l[:k])))
}

// computed returns the preimages that an element and its path lead to, from the root's inwards; false if the path does not fit.
func (h reference) computed(n, i int, element string, path []api.Digest) ([]string, bool) {
	if i < 0 || i >= n || len(path) != levels(n, i) {
		return nil, false
	}
	inner := h.within(n, i, element, path)
	return append([]string{rootPreimage(n, h(inner[0]))}, inner...), true
}

func (h reference) within(n, i int, element string, path []api.Digest) []string {
	if n == 1 {
		return []string{join("leaf", element)}
	}
	sibling, path, k := str(path[len(path)-1]), path[:len(path)-1], cut(n)
	if i < k {
		inner := h.within(k, i, element, path)
		return append([]string{join("node", str(h(inner[0])), sibling)}, inner...)
	}
	inner := h.within(n-k, i-k, element, path)
	return append([]string{join("node", sibling, str(h(inner[0])))}, inner...)
}

// levels returns the length of the path of an index.
func levels(n, i int) int {
	if n == 1 {
		return 0
	}
	if k := cut(n); i >= k {
		return 1 + levels(n-k, i-k)
	}
	return 1 + levels(cut(n), i)
}

// verify is Verify.
func (h reference) verify(root api.Digest, n, i int, element string, path []api.Digest) bool {
	preimages, ok := h.computed(n, i, element, path)
	return ok && h(preimages[0]) == root
}

// clash is Clash, with the level, from the root inwards, at which there is a collision.
func (h reference) clash(l [][]byte, i int, element string, path []api.Digest) (a, b string, level int, ok bool) {
	computed, fits := h.computed(len(l), i, element, path)
	if !fits {
		return "", "", 0, false
	}
	own := h.along(l, i)
	for level = range own {
		if own[level] != computed[level] && h(own[level]) == h(computed[level]) {
			return own[level], computed[level], level, true
		}
	}
	return "", "", 0, false
}
