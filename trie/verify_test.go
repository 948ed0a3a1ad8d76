package trie_test

import (
	"bytes"
	"math/rand"
	"slices"
	"testing"

	"wapentake/api"
	"wapentake/trie"
)

// answers fails the test if Verify returns anything but this.
func answers(t *testing.T, why string, root, key api.Digest, proof string, value string, ok bool, errno api.Errno) {
	t.Helper()
	gotValue, gotOk, gotErrno := trie.Verify(root, key, []byte(proof))
	if string(gotValue) != value || gotOk != ok || gotErrno != errno {
		t.Errorf("%s: %q, %v, %d, want %q, %v, %d", why, gotValue, gotOk, gotErrno, value, ok, errno)
	}
}

// refused fails the test if Verify returns anything but this error.
func refused(t *testing.T, why string, root, key api.Digest, proof string, errno api.Errno) {
	t.Helper()
	answers(t, why, root, key, proof, "", false, errno)
}

// digests returns n digests, one behind the other.
func digests(n int) string {
	var s []byte
	for i := range n {
		s = append(s, str(api.Digest{byte(i), byte(i >> 8), 1})...)
	}
	return string(s)
}

// rootOf returns the root to which a proof leads that is right by its form, and whose entry is on the path.
func rootOf(t *testing.T, key api.Digest, proof string) api.Digest {
	t.Helper()
	p, errno := read(key, proof)
	if errno != api.OK {
		t.Fatal("the test's proof is not one", errno)
	}
	h := strong()
	return h(h.computed(bitsOf(key), p)[0])
}

// P4.2, P4.4: Verify accepts what Prove returns, and returns the key's value, or that it is absent.
func TestVerifyOfProve(t *testing.T) {
	present, absent := 0, 0
	forEachKey(func(l []trie.Entry, key api.Digest) {
		value, ok := valueOf(l, key)
		answers(t, "what Prove returns", trie.Root(l), key, string(trie.Prove(l, key)), string(value), ok, api.OK)
		if ok {
			present++
		} else {
			absent++
		}
	})
	if present < 100 || absent < 100 {
		t.Errorf("%d keys are present, %d absent: the test is idle", present, absent)
	}
}

// P4.2: another root, in any bit, is ErrRoot.
func TestVerifyWithAnotherRoot(t *testing.T) {
	h := strong()
	forEachKey(func(l []trie.Entry, key api.Digest) {
		proof, root := h.prove(l, key), h.root(l)
		for number := range 256 {
			if (number+len(proof))%37 == 0 || number > 253 || len(l) < 2 {
				refused(t, "a root with another bit", flip(root, number), key, proof, api.ErrRoot)
			}
		}
		refused(t, "no root", api.Digest{}, key, proof, api.ErrRoot)
		refused(t, "the proof's digest", h(proof), key, proof, api.ErrRoot)
	})
}

// P4.2: a changed digest, at any place, a digest more or less, and digests in another order are ErrRoot.
func TestVerifyWithOtherDigests(t *testing.T) {
	h := strong()
	forEachKey(func(l []trie.Entry, key api.Digest) {
		parts, _ := split(h.prove(l, key))
		root, s, end := h.root(l), parts[0], parts[1]
		for at := 0; at < len(s); at += 1 + len(s)/20 {
			changed := []byte(s)
			changed[at] ^= 1
			refused(t, "a changed digest", root, key, join(string(changed), end), api.ErrRoot)
		}
		for at := 0; at < len(s); at += 32 * (1 + len(s)/320) {
			less := s[:at] + s[at+32:]
			if _, errno := read(key, join(less, end)); errno == api.OK && less+s[at:at+32] != s {
				refused(t, "a digest less", root, key, join(less, end), api.ErrRoot)
			}
		}
		if len(s) > 0 {
			refused(t, "the last digest less", root, key, join(s[:len(s)-32], end), api.ErrRoot)
		}
		if n := len(s) / 32; n > 1 && s[:32] != s[32:64] {
			refused(t, "digests in another order", root, key, join(s[32:64]+s[:32]+s[64:], end), api.ErrRoot)
		}
		if len(s) < 32*256 {
			want := api.ErrRoot
			if _, errno := read(key, join(s+digests(1), end)); errno != api.OK {
				want = errno
			}
			refused(t, "a digest more", root, key, join(s+digests(1), end), want)
		}
	})
}

// P4.2: another value, and another end of the path, are ErrRoot.
func TestVerifyWithAnotherEnd(t *testing.T) {
	h := strong()
	forEachKey(func(l []trie.Entry, key api.Digest) {
		parts, _ := split(h.prove(l, key))
		root, s, entry := h.root(l), parts[0], api.Digest{}
		end, _ := split(parts[1])
		if len(end) == 0 {
			refused(t, "the key's entry where none is", root, key, join(s, join(str(key), "")), api.ErrRoot)
			refused(t, "another entry where none is", root, key, join(s, join(str(flip(key, 255)), "")), endError(s, 255))
			return
		}
		copy(entry[:], end[0])
		for _, value := range []string{end[1] + "\x00", "\x00" + end[1], "another", join("leaf", end[0], end[1])} {
			refused(t, "another value", root, key, join(s, join(end[0], value)), api.ErrRoot)
		}
		if end[1] != "" {
			refused(t, "no value", root, key, join(s, join(end[0], "")), api.ErrRoot)
			refused(t, "a value's beginning", root, key, join(s, join(end[0], end[1][1:])), api.ErrRoot)
		}
		refused(t, "no entry where one is", root, key, join(s, join()), api.ErrRoot)
		refused(t, "an entry with another key", root, key, join(s, join(str(flip(entry, 255)), end[1])), endError(s, 255))
		if entry != key {
			refused(t, "the entry with the key's own key", root, key, join(s, join(str(key), end[1])), api.ErrRoot)
		}
	})
}

// endError returns the error for an entry that has another bit than one on the path, with siblings s and another root.
func endError(s string, number int) api.Errno {
	if number < len(s)/32 {
		return api.ErrProof
	}
	return api.ErrRoot
}

// P4.2, P4.4: the proof of another key is an error, or it shows what is true of this one.
func TestVerifyOfAnotherKey(t *testing.T) {
	h := strong()
	seen := map[api.Errno]int{}
	for _, l := range samples() {
		keys, root := keysOf(l), h.root(l)
		for i, other := range keys {
			proof := h.prove(l, other)
			for j, key := range keys {
				if len(keys) > 30 && (i+j)%7 != 0 {
					continue
				}
				value, ok, errno := h.verify(root, key, proof)
				answers(t, "the proof of another key", root, key, proof, value, ok, errno)
				seen[errno]++
				if truth, there := valueOf(l, key); errno == api.OK && (string(truth) != value || there != ok) {
					t.Fatalf("%x with the proof of %x: what is not true", key, other)
				}
			}
		}
	}
	if seen[api.OK] < 100 || seen[api.ErrProof] < 100 || seen[api.ErrRoot] < 100 {
		t.Errorf("%v: the test is idle", seen)
	}
}

// P4.2: a proof of up to 256 digests, with each end, at each depth.
func TestVerifyAtEachDepth(t *testing.T) {
	key := keyOf("deep")
	for n := 0; n <= 256; n++ {
		proof := join(digests(n), join(str(key), "value"))
		answers(t, "the key", rootOf(t, key, proof), key, proof, "value", true, api.OK)
		proof = join(digests(n), join(str(key), ""))
		answers(t, "the key, an empty value", rootOf(t, key, proof), key, proof, "", true, api.OK)
		proof = join(digests(n), join())
		answers(t, "no entry", rootOf(t, key, proof), key, proof, "", false, api.OK)
		for number := range 256 {
			if (n+number)%29 != 0 && number != n && number != n-1 {
				continue
			}
			other := flip(key, number)
			proof = join(digests(n), join(str(other), "value"))
			root := rootOf(t, key, join(digests(n), join(str(key), "value")))
			if number < n { // other is not on the path of key, but it is the key of a proof with the same digests
				refused(t, "an entry that is not on the path", root, key, proof, api.ErrProof)
				refused(t, "an entry that is not on the path", rootOf(t, other, proof), key, proof, api.ErrProof)
				refused(t, "an entry that is not on the path", offPath(key, other, n), key, proof, api.ErrProof)
				continue
			}
			answers(t, "another key on the path", rootOf(t, key, proof), key, proof, "", false, api.OK)
			refused(t, "another key on the path", root, key, proof, api.ErrRoot)
		}
	}
}

// offPath returns the root to which the path of key leads from an entry that is not on it.
func offPath(key, other api.Digest, n int) api.Digest {
	h, p := strong(), told{entry: []string{str(other), "value"}}
	for s := digests(n); s != ""; s = s[32:] {
		p.siblings = append(p.siblings, s[:32])
	}
	return h(h.computed(bitsOf(key), p)[0])
}

// formless returns proofs that are none by their form; each is near the right one of a key, with its siblings s and its entry.
func formless(key api.Digest, s, value string) map[string]string {
	k := str(key)
	end := join(k, value)
	return map[string]string{
		"no bytes":                          "",
		"one byte":                          "\x00",
		"no part":                           join(),
		"the siblings alone":                join(s),
		"the end alone":                     join(end),
		"siblings and end unjoined":         s + end,
		"three parts":                       join(s, end, ""),
		"three parts, the first empty":      join("", s, end),
		"a byte behind":                     join(s, end) + "\x00",
		"a byte before":                     "\x00" + join(s, end),
		"joined once more":                  join(join(s, end)),
		"a count above the parts":           num(3) + join(s, end)[8:],
		"a count below the parts":           num(1) + join(s, end)[8:],
		"a count that wraps":                "\x80" + join(s, end)[1:],
		"a length that wraps":               join(s, end)[:8] + "\x80" + join(s, end)[9:],
		"a count and no parts":              num(2),
		"one byte too much":                 join(s+"\x00", end),
		"31 bytes too much":                 join(s+digests(1)[:31], end),
		"16 bytes too much":                 join(s+digests(1)[:16], end),
		"257 digests":                       join(s+digests(257-len(s)/32), end),
		"257 digests, no entry":             join(s+digests(257-len(s)/32), join()),
		"512 digests":                       join(s+digests(512-len(s)/32), end),
		"10000 digests":                     join(s+digests(10000), end),
		"256 digests and a byte":            join(s+digests(256-len(s)/32)+"\x00", end),
		"an end of no bytes":                join(s, ""),
		"an end of seven bytes":             join(s, join()[:7]),
		"an end of nine bytes":              join(s, join()+"\x00"),
		"an end that is a text":             join(s, "empty"),
		"an end that is a preimage":         join(s, join("leaf", k, value)),
		"an end of one part":                join(s, join(k)),
		"an end of one empty part":          join(s, join("")),
		"an end of three parts":             join(s, join(k, value, "")),
		"an end without its last byte":      join(s, end[:len(end)-1]),
		"an end with a byte behind":         join(s, end+"\x00"),
		"an end with a greater count":       join(s, num(3)+end[8:]),
		"an end with a huge count":          join(s, "\xff"+end[1:]),
		"a key of 31 bytes":                 join(s, join(k[:31], value)),
		"a key of 33 bytes":                 join(s, join(k+"\x00", value)),
		"a key of no bytes":                 join(s, join("", value)),
		"a key of 64 bytes":                 join(s, join(k+k, value)),
		"key and value in another order":    join(s, join(value+"!", k)),
		"siblings and end in another order": join(end, s+"!"),
		"a key that is joined":              join(s, join(join(k), value)),
	}
}

// P4.2: each wrong form is ErrForm, whatever else is wrong.
func TestVerifyOfNoForm(t *testing.T) {
	h := strong()
	for _, l := range [][]trie.Entry{{{Key: keyOf("one")}}, mapOf("a", "b"), mapOf(numbers(9)...), twins(keyOf("twin"), 255), twins(api.Digest{}, 254)} {
		last := l[len(l)-1]
		key, root, whole := last.Key, h.root(l), h.prove(l, last.Key)
		parts, _ := split(whole)
		for why, proof := range formless(key, parts[0], string(last.Value)) {
			refused(t, why, root, key, proof, api.ErrForm)
			refused(t, why+", another root", api.Digest{1}, key, proof, api.ErrForm)
			refused(t, why+", off the path", root, flip(key, 0), proof, api.ErrForm)
			refused(t, why+", off the path, another root", api.Digest{1}, flip(key, 0), proof, api.ErrForm)
		}
		for n := range len(whole) {
			refused(t, "a proof's beginning", root, key, whole[:n], api.ErrForm)
			refused(t, "a proof's ending", root, key, whole[n+1:], api.ErrForm)
		}
	}
}

// P4.2: the order of the errors, on proofs at random.
func TestVerifyAtRandom(t *testing.T) {
	h := strong()
	random := rand.New(rand.NewSource(4))
	seen := map[api.Errno]int{}
	for range 20000 {
		key := api.Digest{byte(random.Intn(2) << 7)}
		s := digests(random.Intn(4)) + string(make([]byte, random.Intn(8)/6))
		end := [][]string{{}, {str(key), "v"}, {str(flip(key, random.Intn(5))), ""}, {str(key)[random.Intn(2):], ""}}[random.Intn(4)]
		if random.Intn(10) == 0 {
			end = append(end, "")
		}
		proof := join(s, join(end...))
		if random.Intn(10) == 0 {
			changed := []byte(proof)
			changed[random.Intn(len(proof))] ^= byte(1 << random.Intn(8))
			proof = string(changed)
		}
		root := h(proof)
		if p, errno := read(key, proof); errno == api.OK && random.Intn(2) == 0 {
			root = h(h.computed(bitsOf(key), p)[0])
		}
		value, ok, errno := h.verify(root, key, proof)
		answers(t, "a proof at random", root, key, proof, value, ok, errno)
		seen[errno]++
	}
	for _, errno := range []api.Errno{api.OK, api.ErrForm, api.ErrProof, api.ErrRoot} {
		if seen[errno] < 500 {
			t.Errorf("%d comes only %d times", errno, seen[errno])
		}
	}
}

// P4.2: any bytes are answered as the chapter's words say.
func FuzzVerify(f *testing.F) {
	h := strong()
	for _, l := range samples()[:8] {
		key := keysOf(l)[len(keysOf(l))-1]
		f.Add(str(h.root(l)), str(key), []byte(h.prove(l, key)))
	}
	f.Add(str(api.Digest{}), str(api.Digest{}), []byte(join(digests(257), join())))
	f.Fuzz(func(t *testing.T, root, key string, proof []byte) {
		var r, k api.Digest
		copy(r[:], root)
		copy(k[:], key)
		value, ok, errno := h.verify(r, k, string(proof))
		before := slices.Clone(proof)
		answers(t, "any bytes", r, k, string(proof), value, ok, errno)
		if !bytes.Equal(before, proof) {
			t.Error("the proof changed")
		}
	})
}
