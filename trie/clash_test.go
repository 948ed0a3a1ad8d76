package trie_test

import (
	"slices"
	"testing"

	"wapentake/api"
	"wapentake/trie"
)

// noClash fails the test if Clash returns anything.
func noClash(t *testing.T, why string, l []trie.Entry, key api.Digest, proof string) {
	t.Helper()
	if a, b, ok := trie.Clash(l, key, []byte(proof)); ok || len(a) != 0 || len(b) != 0 {
		t.Errorf("%s: %d entries: %x, %x, %v", why, len(l), a, b, ok)
	}
}

// P4.3: there is no collision in the right proof, nor in one with another end, or with other digests: then all digests differ, or the preimages are equal.
func TestClashOfNoCollision(t *testing.T) {
	h := strong()
	turn := 0
	forEachKey(func(l []trie.Entry, key api.Digest) {
		proof := h.prove(l, key)
		noClash(t, "the right proof", l, key, proof)
		parts, _ := split(proof)
		s := parts[0]
		ends := []string{parts[1], join(), join(str(key), ""), join(str(key), "another"), join(str(flip(key, 255)), "another")}
		for _, end := range ends {
			noClash(t, "another end", l, key, join(s, end))
			noClash(t, "no digests", l, key, join("", end))
		}
		turn++
		end := ends[turn%len(ends)]
		noClash(t, "more digests", l, key, join(s+digests(1), end))
		noClash(t, "256 digests", l, key, join(s+digests(256-len(s)/32), end))
		for at := 0; at < len(s); at += 32 * (1 + len(s)/80) {
			noClash(t, "a digest less", l, key, join(s[:at]+s[at+32:], end))
			noClash(t, "fewer digests", l, key, join(s[:at], end))
			noClash(t, "other digests", l, key, join(s[:at]+digests(len(s)/32-at/32), end))
			noClash(t, "another digest", l, key, join(s[:at]+digests(1)+s[at+32:], end))
		}
	})
}

// P4.3: the proofs of other keys and of other maps, on the path of the key or not.
func TestClashOfOtherProofs(t *testing.T) {
	h := strong()
	maps := [][]trie.Entry{nil, mapOf("a"), mapOf("b"), mapOf("a", "b", "c"), mapOf(numbers(9)...), mapOf(numbers(10)...), twins(keyOf("twin"), 255)}
	for _, m := range maps {
		for _, key := range keysOf(m) {
			proof := h.prove(m, key)
			for _, l := range maps {
				noClash(t, "the proof of another map", l, key, proof)
				noClash(t, "the proof of another key", l, flip(key, 255), proof)
				noClash(t, "the proof of another key", l, flip(key, 1), proof)
			}
		}
	}
}

// P4.3: a map that is not valid.
func TestClashOfMapsThatAreNotValid(t *testing.T) {
	h := strong()
	for _, l := range invalid() {
		valid := sorted(slices.Clone(l)...)
		valid = slices.CompactFunc(valid, func(a, b trie.Entry) bool { return a.Key == b.Key })
		for _, key := range []api.Digest{l[0].Key, l[1].Key, keyOf("no key")} {
			noClash(t, "a map that is not valid", l, key, join("", join()))
			noClash(t, "a map that is not valid", l, key, join("", join(str(key), "value")))
			if len(l) < 12 {
				noClash(t, "a map that is not valid", l, key, h.prove(valid, key))
			}
		}
	}
}

// P4.3: what is not a proof by its form, and an entry that is not on the path.
func TestClashOfNoProof(t *testing.T) {
	h := strong()
	for _, l := range [][]trie.Entry{{{Key: keyOf("one")}}, mapOf("a", "b"), mapOf(numbers(9)...), twins(keyOf("twin"), 255)} {
		for _, e := range l {
			proof := h.prove(l, e.Key)
			parts, _ := split(proof)
			for why, wrong := range formless(e.Key, parts[0], string(e.Value)) {
				noClash(t, why, l, e.Key, wrong)
			}
			for n := range len(parts[0]) / 32 {
				noClash(t, "an entry that is not on the path", l, flip(e.Key, n), proof)
				noClash(t, "an entry that is not on the path", l, e.Key, join(parts[0], join(str(flip(e.Key, n)), string(e.Value))))
			}
			for n := range len(proof) / 9 {
				noClash(t, "a proof's beginning", l, e.Key, proof[:9*n])
			}
		}
	}
}
