package trie_test

import (
	"bytes"
	"slices"
	"testing"

	"wapentake/api"
	"wapentake/trie"
)

// spoil changes all bytes, those that append would reach as well.
func spoil(b []byte) {
	b = b[:cap(b)]
	for i := range b {
		b[i] ^= 255
	}
}

// roomy is a map whose values are pieces of one text, and a proof, each with room behind it that is not theirs.
type roomy struct {
	text  []byte
	l     []trie.Entry
	proof []byte
}

// newRoomy returns a map of n entries, and the proof of a key.
func newRoomy(n int, key api.Digest) roomy {
	r := roomy{text: bytes.Repeat([]byte("abcdefg"), n+1)}
	l := mapOf(numbers(n)...)
	for i := range l {
		l[i].Value = r.text[7*i : 7*i+i%8]
	}
	r.l = append(make([]trie.Entry, 0, n+3), l...)
	proof := strong().prove(l, key)
	r.proof = append(make([]byte, 0, len(proof)+100), proof...)
	return r
}

func sameMap(a, b []trie.Entry) bool {
	return slices.EqualFunc(a, b, func(a, b trie.Entry) bool { return a.Key == b.Key && bytes.Equal(a.Value, b.Value) })
}

// same tells whether nothing changed, in what it has and behind it.
func (r roomy) same(n int, key api.Digest) bool {
	fresh := newRoomy(n, key)
	return bytes.Equal(r.text, fresh.text) && sameMap(r.l[:cap(r.l)], fresh.l[:cap(fresh.l)]) &&
		bytes.Equal(r.proof[:cap(r.proof)], fresh.proof[:cap(fresh.proof)])
}

// forEachRoomy calls f for keys that are in roomy maps, and for others.
func forEachRoomy(f func(r roomy, n int, key api.Digest)) {
	for n := range 18 {
		for _, s := range append(numbers(n), "no key", "another") {
			f(newRoomy(n, keyOf(s)), n, keyOf(s))
		}
	}
}

// R3: no function changes its arguments, nor what stands behind them.
func TestArgumentsAreNotChanged(t *testing.T) {
	forEachRoomy(func(r roomy, n int, key api.Digest) {
		root := trie.Root(r.l)
		trie.May(r.l)
		trie.Prove(r.l, key)
		wrong := bytes.Clone(r.proof)
		for _, proof := range [][]byte{r.proof, r.proof[:len(r.proof)/2], r.proof[:cap(r.proof)], append(wrong[:8:8], r.proof[8:]...)} {
			trie.Verify(root, key, proof)
			trie.Verify(api.Digest{}, key, proof)
			trie.Verify(root, flip(key, 0), proof)
			trie.Clash(r.l, key, proof)
			trie.Clash(r.l, flip(key, 0), proof)
		}
		if !r.same(n, key) {
			t.Fatalf("%d entries: an argument changed", n)
		}
	})
	l := []trie.Entry{{Key: api.Digest{2}, Value: []byte("b")}, {Key: api.Digest{1}, Value: []byte("a")}}
	before := slices.Clone(l)
	trie.May(l)
	trie.Root(l)
	trie.Prove(l, l[0].Key)
	trie.Clash(l, l[0].Key, trie.Prove(nil, l[0].Key))
	if !sameMap(l, before) {
		t.Error("a map that is not valid changed")
	}
}

// R3: a proof belongs to the caller: it shares no memory with the map, nor with another proof.
func TestProveSharesNoMemory(t *testing.T) {
	forEachRoomy(func(r roomy, n int, key api.Digest) {
		proof, other := trie.Prove(r.l, key), trie.Prove(r.l, key)
		spoil(proof)
		if !r.same(n, key) || !bytes.Equal(other, r.proof) {
			t.Fatalf("%d entries: the map or another proof changed with a proof", n)
		}
		spoil(r.text)
		clear(r.l)
		if !bytes.Equal(other, r.proof) {
			t.Fatalf("%d entries: a proof changed with the map", n)
		}
	})
}

// R3: a value belongs to the caller: it shares no memory with the proof, nor with another value.
func TestVerifySharesNoMemory(t *testing.T) {
	forEachRoomy(func(r roomy, n int, key api.Digest) {
		want, ok := valueOf(r.l, key)
		if !ok {
			return
		}
		root := trie.Root(r.l)
		value, _, _ := trie.Verify(root, key, r.proof)
		other, _, _ := trie.Verify(root, key, r.proof)
		spoil(value)
		if !r.same(n, key) || !bytes.Equal(other, want) {
			t.Fatalf("%d entries: the proof or another value changed with a value", n)
		}
		spoil(r.proof)
		if !bytes.Equal(other, want) {
			t.Fatalf("%d entries: a value changed with the proof", n)
		}
	})
}

// R4: the same calls have the same results, whatever was called between them.
func TestSameCallsAgain(t *testing.T) {
	l := mapOf(numbers(11)...)
	key := l[5].Key
	root, proof := trie.Root(l), trie.Prove(l, key)
	for _, other := range append(samples(), invalid()[:20]...) {
		trie.May(other)
		trie.Root(other)
		trie.Prove(other, key)
		trie.Verify(root, keyOf("no key"), proof)
		trie.Clash(other, key, proof)
		value, ok, errno := trie.Verify(root, key, proof)
		if trie.Root(l) != root || !bytes.Equal(trie.Prove(l, key), proof) || !bytes.Equal(value, l[5].Value) || !ok || errno != api.OK {
			t.Fatal("the same call has another result")
		}
	}
}
