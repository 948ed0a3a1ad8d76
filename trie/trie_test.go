package trie_test

import (
	"bytes"
	"crypto/sha256"
	"encoding/hex"
	"fmt"
	"slices"
	"strconv"
	"testing"

	"wapentake/api"
	"wapentake/sha"
	"wapentake/trie"
)

// keyOf returns a key that looks random.
func keyOf(s string) api.Digest { return sha256.Sum256([]byte(s)) }

// flip returns the key with another bit of that number.
func flip(key api.Digest, number int) api.Digest {
	key[number/8] ^= 128 >> (number % 8)
	return key
}

// sorted returns a map of entries in any order.
func sorted(l ...trie.Entry) []trie.Entry {
	slices.SortFunc(l, func(a, b trie.Entry) int { return bytes.Compare(a.Key[:], b.Key[:]) })
	return l
}

// mapOf returns the map that has the texts as values, under keys that look random.
func mapOf(texts ...string) []trie.Entry {
	var l []trie.Entry
	for _, s := range texts {
		l = append(l, trie.Entry{Key: keyOf(s), Value: []byte(s)})
	}
	return sorted(l...)
}

// numbers returns the texts of the numbers below n.
func numbers(n int) []string {
	var l []string
	for i := range n {
		l = append(l, strconv.Itoa(i))
	}
	return l
}

// twins returns the map of two keys that differ in the bit of that number alone.
func twins(key api.Digest, number int) []trie.Entry {
	return sorted(trie.Entry{Key: key, Value: []byte("a")}, trie.Entry{Key: flip(key, number), Value: []byte("b")})
}

// comb returns a map of a key and, for each number, of the key that differs from it in that bit alone.
func comb(key api.Digest, numbers ...int) []trie.Entry {
	l := []trie.Entry{{Key: key}}
	for _, n := range numbers {
		l = append(l, trie.Entry{Key: flip(key, n), Value: []byte(strconv.Itoa(n))})
	}
	return sorted(l...)
}

// samples returns valid maps.
func samples() [][]trie.Entry {
	long := bytes.Repeat([]byte("long "), 3000)
	leaf := sha.Join([]byte("leaf"), make([]byte, 32), nil)
	l := [][]trie.Entry{
		nil, {}, {{}}, {{Value: []byte("value")}}, {{Value: []byte{}}}, {{Key: keyOf("x"), Value: long}}, {{Value: leaf}},
		{{Key: api.Digest(bytes.Repeat([]byte{255}, 32)), Value: []byte{0}}},
		sorted(trie.Entry{Key: keyOf("a"), Value: long}, trie.Entry{Key: keyOf("b")}, trie.Entry{Key: keyOf("c"), Value: long[1:]}),
		comb(keyOf("comb"), 0, 1, 2, 3, 4, 5, 6, 7, 8), comb(api.Digest{}, 200, 201, 210, 248, 253, 254, 255), comb(keyOf("y"), 0, 128, 255),
		append(comb(api.Digest{}, 255, 254), comb(keyOf("z"), 255, 254)...),
	}
	for _, number := range []int{0, 1, 7, 8, 9, 63, 128, 254, 255} {
		l = append(l, twins(api.Digest{}, number))
	}
	l = append(l, twins(keyOf("twin"), 0), twins(keyOf("twin"), 8), twins(keyOf("twin"), 255))
	for n := 2; n <= 12; n++ {
		l = append(l, mapOf(numbers(n)...))
	}
	return append(l, mapOf(numbers(30)...), mapOf(numbers(70)...))
}

// keysOf returns keys to ask a map about: those of some entries, and others.
func keysOf(l []trie.Entry) []api.Digest {
	keys := []api.Digest{{}, api.Digest(bytes.Repeat([]byte{255}, 32)), keyOf("no key"), keyOf("another")}
	for _, e := range l[:min(len(l), 6)] {
		keys = append(keys, e.Key, flip(e.Key, 0), flip(e.Key, 8), flip(e.Key, 254), flip(e.Key, 255))
	}
	return keys
}

// forEachKey calls f for keys that are in sample maps, and for others.
func forEachKey(f func(l []trie.Entry, key api.Digest)) {
	for _, l := range samples() {
		for _, key := range keysOf(l) {
			f(l, key)
		}
	}
}

// valueOf returns the value of a key; false if it is absent.
func valueOf(l []trie.Entry, key api.Digest) ([]byte, bool) {
	for _, e := range l {
		if e.Key == key {
			return e.Value, true
		}
	}
	return nil, false
}

// P4.1: roots that were computed by another program.
func TestKnownRoots(t *testing.T) {
	var zero api.Digest
	for name, c := range map[string]struct {
		l    []trie.Entry
		want string
	}{
		"nil":             {nil, "a1b3bdf759b06813b8b3193197b459dda03e01c1e9668a3446f7e527b3b16c12"},
		"none":            {[]trie.Entry{}, "a1b3bdf759b06813b8b3193197b459dda03e01c1e9668a3446f7e527b3b16c12"},
		"no value":        {[]trie.Entry{{}}, "a5ac62781375ae3ce7682624241f19e74b5390ab5ce6d089c8a581f52acb95ae"},
		"an empty value":  {[]trie.Entry{{Value: []byte{}}}, "a5ac62781375ae3ce7682624241f19e74b5390ab5ce6d089c8a581f52acb95ae"},
		"one entry":       {[]trie.Entry{{Value: []byte("value")}}, "2626ad96df10ff54feaadab4383b688ec6c560710e348381c745f3a746c55105"},
		"the first bit":   {twins(zero, 0), "2f79d4b0309ae464e08fbd45806058f87794c9bbf98b8c385731f89cb928ccb9"},
		"the bit 8":       {twins(zero, 8), "ba02c0954a11365e4c21b492db88db68a480dbd35c1097766479b44b6941d72c"},
		"the last bit":    {twins(zero, 255), "7501501e4c35b170a175a75c4ad12e8c881ba5e83c6484950f325bbf5b9c11a4"},
		"five entries":    {mapOf("a", "b", "c", "d", "e"), "a5a8be855623e76a6fc274ef3719eaa0b653a5ad2a4d15fb35d18895208b41b6"},
		"hundred entries": {mapOf(numbers(100)...), "cb337f890f8360265796b8a0ebac929b1f8cbd37bf64f5346c84579fef9e010b"},
	} {
		if d := trie.Root(c.l); hex.EncodeToString(d[:]) != c.want {
			t.Errorf("%s: the root %x, want %s", name, d, c.want)
		}
	}
}

// P4.1: proofs whose lengths and digests were computed by another program.
func TestKnownProofs(t *testing.T) {
	var zero api.Digest
	five, hundred := mapOf("a", "b", "c", "d", "e"), mapOf(numbers(100)...)
	for _, c := range []struct {
		l      []trie.Entry
		key    api.Digest
		length int
		want   string
	}{
		{twins(zero, 255), zero, 8273, "8ce1d79d3dfe07e8716aef69e3baabf6d1663d9eb35c20affc2d0473a55e39c0"},
		{hundred, keyOf("0"), 401, "9742b15ce883e878448723101838452e9a41898a1454eeb107f8c63264c4e09f"},
		{hundred, keyOf("none"), 242, "88ef4dae0777c68560dce440bb6c8db68c77bd61fb9da2c6a5087352ee509ef5"},
		{five, keyOf("c"), 209, "2ca35be28bd5a7be7ffc7f456ed609e276884bf7c276e4dc9b32d8877e14df33"},
		{five, zero, 177, "92ca7b4ed15944153a10451341e29960a52c240a245d26d00f5fd62c7c113eb3"},
	} {
		proof := trie.Prove(c.l, c.key)
		if d := sha256.Sum256(proof); len(proof) != c.length || hex.EncodeToString(d[:]) != c.want {
			t.Errorf("%d entries, %x: a proof of %d bytes, %x", len(c.l), c.key, len(proof), d)
		}
	}
}

// The chapter's table of examples.
func TestExamples(t *testing.T) {
	if trie.Root(nil) != sha.Of([]byte("empty")) {
		t.Error("the root of no entries")
	}
	key, value := keyOf("key"), []byte("value")
	if trie.Root([]trie.Entry{{Key: key, Value: value}}) != sha.Of([]byte("leaf"), key[:], value) {
		t.Error("the root of one entry")
	}
	for _, k := range []api.Digest{{}, key} {
		proof := trie.Prove(nil, k)
		if !bytes.Equal(proof, sha.Join(nil, sha.Join())) {
			t.Errorf("the proof of no entries: %x", proof)
		}
		if value, ok, errno := trie.Verify(sha.Of([]byte("empty")), k, proof); len(value) != 0 || ok || errno != api.OK {
			t.Errorf("%x, %v, %d", value, ok, errno)
		}
	}
}

// P4.1: the bits are numbered from the most significant one of the first byte on, and a branch has the entries with the bit 0 first.
func TestPlacesInBranches(t *testing.T) {
	var zero api.Digest
	for number := range 256 {
		other := flip(zero, number)
		low, high := sha.Of([]byte("leaf"), zero[:], []byte("low")), sha.Of([]byte("leaf"), other[:], []byte("high"))
		want := sha.Of([]byte("branch"), low[:], high[:])
		empty := sha.Of([]byte("empty"))
		for range number {
			want = sha.Of([]byte("branch"), want[:], empty[:])
		}
		l := []trie.Entry{{Key: zero, Value: []byte("low")}, {Key: other, Value: []byte("high")}}
		if trie.Root(l) != want {
			t.Errorf("the bit %d: a wrong root", number)
		}
		siblings := bytes.Repeat(empty[:], number)
		if !bytes.Equal(trie.Prove(l, zero), sha.Join(append(bytes.Clone(siblings), high[:]...), sha.Join(zero[:], []byte("low")))) {
			t.Errorf("the bit %d: a wrong proof of the lower key", number)
		}
		if !bytes.Equal(trie.Prove(l, other), sha.Join(append(bytes.Clone(siblings), low[:]...), sha.Join(other[:], []byte("high")))) {
			t.Errorf("the bit %d: a wrong proof of the higher key", number)
		}
	}
}

// P4.1: roots and proofs are those of the chapter's words, for keys that are present and for others.
func TestRootsAndProofs(t *testing.T) {
	h := strong()
	for _, l := range samples() {
		if !trie.May(l) || trie.Root(l) != h.root(l) {
			t.Errorf("%d entries: valid: %v, the root %x", len(l), trie.May(l), trie.Root(l))
		}
	}
	forEachKey(func(l []trie.Entry, key api.Digest) {
		if proof := trie.Prove(l, key); string(proof) != h.prove(l, key) {
			t.Errorf("%d entries: a wrong proof of %x: %x", len(l), key, proof)
		}
	})
}

// invalid returns maps that are not valid.
func invalid() [][]trie.Entry {
	low, high := trie.Entry{Key: api.Digest{0x7f}}, trie.Entry{Key: api.Digest{0x80}}
	all := [][]trie.Entry{{high, low}, {low, low}, {low, high, high}, {low, low, high}, {{}, {}}, {high, low, high}, {low, high, low}}
	for _, l := range samples() {
		for i := 1; i < len(l); i++ {
			swapped := slices.Clone(l)
			swapped[i-1], swapped[i] = l[i], l[i-1]
			equal := slices.Insert(slices.Clone(l), i, l[i])
			other := slices.Insert(slices.Clone(l), i, trie.Entry{Key: l[i-1].Key, Value: []byte("other")})
			all = append(all, swapped, equal, other)
		}
		if len(l) > 1 {
			falling := slices.Clone(l)
			slices.Reverse(falling)
			all = append(all, falling, append(slices.Clone(l), l[0]))
		}
	}
	return all
}

// P4.1: a map with equal keys, or with falling ones, is not valid, and has no root and no proofs.
func TestMapsThatAreNotValid(t *testing.T) {
	for _, l := range invalid() {
		if trie.May(l) || trie.Root(l) != (api.Digest{}) {
			t.Errorf("%d entries: valid: %v, the root %x", len(l), trie.May(l), trie.Root(l))
		}
		for _, key := range []api.Digest{l[0].Key, l[1].Key, l[len(l)-1].Key, keyOf("no key")} {
			if proof := trie.Prove(l, key); len(proof) != 0 {
				t.Errorf("%d entries: a proof %x", len(l), proof)
			}
		}
	}
}

// P4.1: keys are compared bytewise, from the first byte on, and bytes are not negative.
func TestMay(t *testing.T) {
	key := func(first, last byte) trie.Entry {
		var k api.Digest
		k[0], k[31] = first, last
		return trie.Entry{Key: k}
	}
	for _, c := range []struct {
		l    []trie.Entry
		want bool
	}{
		{nil, true},
		{[]trie.Entry{key(9, 9)}, true},
		{[]trie.Entry{key(0x7f, 0), key(0x80, 0)}, true},
		{[]trie.Entry{key(0, 0x7f), key(0, 0x80)}, true},
		{[]trie.Entry{key(1, 255), key(2, 0)}, true},
		{[]trie.Entry{key(2, 0), key(1, 255)}, false},
		{[]trie.Entry{key(0, 1), key(0, 0)}, false},
		{[]trie.Entry{key(0, 0), key(0, 1), key(0, 2), key(0, 3)}, true},
		{[]trie.Entry{key(0, 0), key(0, 1), key(0, 3), key(0, 2)}, false},
		{[]trie.Entry{key(0, 1), key(0, 0), key(0, 2), key(0, 3)}, false},
		{[]trie.Entry{key(0, 0), key(0, 1), key(0, 2), key(0, 2)}, false},
		{[]trie.Entry{key(0, 0), key(0, 0), key(0, 2), key(0, 3)}, false},
	} {
		if trie.May(c.l) != c.want {
			t.Errorf("%x: %v", c.l, !c.want)
		}
	}
}

// nearly returns maps that differ from l in one entry.
func nearly(l []trie.Entry) [][]trie.Entry {
	var maps [][]trie.Entry
	for i := range l {
		value, key := slices.Clone(l), slices.Clone(l)
		value[i].Value = append(bytes.Clone(l[i].Value), 0)
		key[i].Key = flip(l[i].Key, 255)
		maps = append(maps, value, key)
		if i > 0 {
			swapped := slices.Clone(l)
			swapped[i].Value, swapped[0].Value = l[0].Value, l[i].Value
			maps = append(maps, swapped, slices.Delete(slices.Clone(l), i-1, i))
		}
	}
	return maps
}

// P4.1, P4.4: maps that are nearly alike have different roots.
func TestRootTellsMapsApart(t *testing.T) {
	var zero api.Digest
	a, b := sha.Of([]byte("leaf"), zero[:], []byte("a")), sha.Of([]byte("leaf"), zero[:], []byte("b"))
	maps := [][]trie.Entry{
		nil, {{}}, {{Value: []byte("empty")}}, {{Value: make([]byte, 32)}}, {{Key: a, Value: b[:]}},
		{{Value: sha.Join([]byte("branch"), a[:], b[:])}},
	}
	for n := 1; n <= 17; n++ {
		l := mapOf(numbers(n)...)
		maps = append(append(maps, l), nearly(l)...)
	}
	for number := range 256 {
		maps = append(maps, twins(zero, number))
	}
	seen := map[api.Digest]string{}
	for _, l := range maps {
		text := fmt.Sprintf("%x", l)
		root := trie.Root(l)
		if other, ok := seen[root]; ok && other != text {
			t.Errorf("%s and %s have one root", text, other)
		}
		seen[root] = text
	}
}
