package trie_test

import (
	"crypto/sha256"
	"encoding/binary"
	"slices"
	"strconv"
	"strings"

	"wapentake/api"
	"wapentake/trie"
)

// reference is the chapter's words once more, over a function from bytes to digests: keys are texts of 256 zeros and ones.
type reference func(string) api.Digest

// strong is over SHA-256.
func strong() reference {
	return func(s string) api.Digest { return sha256.Sum256([]byte(s)) }
}

func num(n int) string {
	return string(binary.BigEndian.AppendUint64(nil, uint64(n)))
}

func join(parts ...string) string {
	var joined strings.Builder
	joined.WriteString(num(len(parts)))
	for _, p := range parts {
		joined.WriteString(num(len(p)))
		joined.WriteString(p)
	}
	return joined.String()
}

// split returns the parts of a joined encoding; false if there are none.
func split(s string) ([]string, bool) {
	n, s, ok := front(s)
	parts := []string{}
	for ; ok && n > 0; n-- {
		var length uint64
		length, s, ok = front(s)
		if !ok || length > uint64(len(s)) {
			return nil, false
		}
		parts, s = append(parts, s[:length]), s[length:]
	}
	return parts, ok && s == ""
}

// front returns the number at the front of s, and what is behind it.
func front(s string) (uint64, string, bool) {
	if len(s) < 8 {
		return 0, "", false
	}
	return binary.BigEndian.Uint64([]byte(s)), s[8:], true
}

func str(d api.Digest) string { return string(d[:]) }

// bitsOf returns the bits of a key.
func bitsOf(key api.Digest) string {
	var bits strings.Builder
	for _, x := range key {
		bits.WriteString(strconv.FormatInt(256+int64(x), 2)[1:])
	}
	return bits.String()
}

// item is an entry with the bits of its key.
type item struct{ bits, key, value string }

func items(l []trie.Entry) []item {
	var all []item
	for _, e := range l {
		all = append(all, item{bitsOf(e.Key), str(e.Key), string(e.Value)})
	}
	return all
}

// with returns the items whose bits begin so.
func with(all []item, begin string) []item {
	var some []item
	for _, it := range all {
		if strings.HasPrefix(it.bits, begin) {
			some = append(some, it)
		}
	}
	return some
}

func (h reference) root(l []trie.Entry) api.Digest {
	return h(h.preimage(items(l), ""))
}

// preimage returns that of the items whose bits begin so.
func (h reference) preimage(all []item, begin string) string {
	some := with(all, begin)
	switch len(some) {
	case 0:
		return join("empty")
	case 1:
		return join("leaf", some[0].key, some[0].value)
	}
	return join("branch", str(h(h.preimage(some, begin+"0"))), str(h(h.preimage(some, begin+"1"))))
}

// along returns the preimages of a map along the path of a key, from the root inwards.
func (h reference) along(l []trie.Entry, key api.Digest) []string {
	var preimages []string
	all, bits := items(l), bitsOf(key)
	for depth := 0; ; depth++ {
		preimages = append(preimages, h.preimage(all, bits[:depth]))
		if len(with(all, bits[:depth])) < 2 {
			return preimages
		}
	}
}

// prove returns the proof for a key.
func (h reference) prove(l []trie.Entry, key api.Digest) string {
	all, bits, siblings := items(l), bitsOf(key), ""
	for depth := 0; ; depth++ {
		switch some := with(all, bits[:depth]); len(some) {
		case 0:
			return join(siblings, join())
		case 1:
			return join(siblings, join(some[0].key, some[0].value))
		}
		other := map[byte]string{'0': "1", '1': "0"}[bits[depth]]
		siblings += str(h(h.preimage(all, bits[:depth]+other)))
	}
}

// told is what a proof tells.
type told struct {
	siblings []string
	entry    []string // a key and a value, or nothing
}

// read returns what a proof tells: ErrForm, ErrProof or OK.
func read(key api.Digest, proof string) (told, api.Errno) {
	parts, ok := split(proof)
	if !ok || len(parts) != 2 || len(parts[0])%32 != 0 || len(parts[0])/32 > 256 {
		return told{}, api.ErrForm
	}
	var p told
	for s := parts[0]; s != ""; s = s[32:] {
		p.siblings = append(p.siblings, s[:32])
	}
	if p.entry, ok = split(parts[1]); !ok || len(p.entry) != 0 && (len(p.entry) != 2 || len(p.entry[0]) != 32) {
		return told{}, api.ErrForm
	}
	if len(p.entry) == 2 && !strings.HasPrefix(bitsOf(api.Digest([]byte(p.entry[0]))), bitsOf(key)[:len(p.siblings)]) {
		return told{}, api.ErrProof
	}
	return p, api.OK
}

// computed returns the preimages that are computed from what a proof tells, from the root inwards.
func (h reference) computed(bits string, p told) []string {
	inner := join("empty")
	if len(p.entry) == 2 {
		inner = join("leaf", p.entry[0], p.entry[1])
	}
	preimages := []string{inner}
	for depth := len(p.siblings); depth > 0; depth-- {
		halves := []string{str(h(inner)), p.siblings[depth-1]}
		if bits[depth-1] == '1' {
			slices.Reverse(halves)
		}
		inner = join("branch", halves[0], halves[1])
		preimages = append(preimages, inner)
	}
	slices.Reverse(preimages)
	return preimages
}

// verify is Verify.
func (h reference) verify(root, key api.Digest, proof string) (string, bool, api.Errno) {
	p, errno := read(key, proof)
	switch {
	case errno != api.OK:
		return "", false, errno
	case h(h.computed(bitsOf(key), p)[0]) != root:
		return "", false, api.ErrRoot
	case len(p.entry) == 2 && p.entry[0] == str(key):
		return p.entry[1], true, api.OK
	}
	return "", false, api.OK
}

// clash is Clash, with the depth at which there is a collision.
func (h reference) clash(l []trie.Entry, key api.Digest, proof string) (a, b string, depth int, ok bool) {
	p, errno := read(key, proof)
	if errno != api.OK {
		return "", "", 0, false
	}
	own, computed := h.along(l, key), h.computed(bitsOf(key), p)
	for depth = 0; depth < len(own) && depth < len(computed); depth++ {
		if a, b = own[depth], computed[depth]; a != b && h(a) == h(b) {
			return a, b, depth, true
		}
	}
	return "", "", 0, false
}
