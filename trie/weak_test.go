package trie_test

import (
	"bytes"
	"crypto/sha256"
	"encoding/json"
	"math/rand"
	"os"
	"os/exec"
	"path/filepath"
	"slices"
	"strings"
	"testing"

	"wapentake/api"
	"wapentake/sha"
	"wapentake/trie"
)

// Nobody knows a collision of SHA-256, so what Clash returns of one is tested on a package sha that has few digests:
// a second run of the go command has weakSha in its place (nothing is written to the project).

// weakMark is set in the environment of the second run.
const weakMark = "WAPENTAKE_WEAK_DIGESTS"

// weakSha is a package sha whose digests are the lowest two bits of the first byte of the real ones.
const weakSha = `package sha

import "wapentake/realsha"

type Digest = sha.Digest

type Hash struct{ real *sha.Hash }

func New() *Hash                      { return &Hash{sha.New()} }
func (h *Hash) Write(b []byte)        { h.real.Write(b) }
func (h *Hash) Sum() Digest           { return Digest{h.real.Sum()[0] & 3} }
func Sum(b []byte) Digest             { return Digest{sha.Sum(b)[0] & 3} }
func Join(parts ...[]byte) []byte     { return sha.Join(parts...) }
func Split(b []byte) ([][]byte, bool) { return sha.Split(b) }
func Of(parts ...[]byte) Digest       { return Sum(Join(parts...)) }
`

// weak is over the digests of weakSha.
func weak() reference {
	return func(s string) api.Digest { return api.Digest{sha256.Sum256([]byte(s))[0] & 3} }
}

// overlay writes a file by which the go command takes weakSha for the package sha, and the package sha for realsha.
func overlay(t *testing.T) string {
	root, err := filepath.Abs("..")
	if err != nil {
		t.Fatal(err)
	}
	files, err := filepath.Glob(filepath.Join(root, "sha", "*.go"))
	if err != nil || len(files) == 0 {
		t.Fatal("no package sha", err)
	}
	replaced := map[string]string{}
	for _, f := range files {
		replaced[f] = ""
		if !strings.HasSuffix(f, "_test.go") {
			replaced[filepath.Join(root, "realsha", filepath.Base(f))] = f
		}
	}
	stand := filepath.Join(t.TempDir(), "weak.go")
	if err := os.WriteFile(stand, []byte(weakSha), 0o600); err != nil {
		t.Fatal(err)
	}
	replaced[filepath.Join(root, "sha", "weaksha.go")] = stand
	b, err := json.Marshal(map[string]any{"Replace": replaced})
	if err != nil {
		t.Fatal(err)
	}
	name := filepath.Join(t.TempDir(), "overlay.json")
	if err := os.WriteFile(name, b, 0o600); err != nil {
		t.Fatal(err)
	}
	return name
}

// P4.1 to P4.4, R3, on digests that collide: the test runs itself once more.
func TestOnWeakDigests(t *testing.T) {
	if os.Getenv(weakMark) != "" {
		t.Run("digests", testWeakDigests)
		t.Run("consequences", testWeakConsequences)
		t.Run("maps", testWeakMaps)
		t.Run("memory", testWeakMemory)
		return
	}
	c := exec.Command("go", "test", "-vet=off", "-count=1", "-v", "-overlay", overlay(t), "-run", "^TestOnWeakDigests$", ".")
	c.Env = append(os.Environ(), weakMark+"=1", "GOPROXY=off", "CGO_ENABLED=0")
	out, err := c.CombinedOutput()
	if err != nil || bytes.Count(out, []byte("--- PASS: TestOnWeakDigests/")) != 4 {
		t.Fatalf("%v\n%s", err, out)
	}
}

// randomKey returns one of 72 keys: many paths end early, and some late.
func randomKey(random *rand.Rand) api.Digest {
	return api.Digest{byte(random.Intn(8) << 5), byte(random.Intn(3) << 6), byte(random.Intn(3))}
}

// randomMap returns a map of few entries.
func randomMap(random *rand.Rand) []trie.Entry {
	var l []trie.Entry
	for range random.Intn(9) {
		l = append(l, trie.Entry{Key: randomKey(random), Value: []byte{byte('a' + random.Intn(6))}})
	}
	l = sorted(l...)
	return slices.CompactFunc(l, func(a, b trie.Entry) bool { return a.Key == b.Key })
}

// question is what Verify and Clash are asked.
type question struct {
	l     []trie.Entry
	key   api.Digest
	proof []byte
}

// questions returns proofs of which most are right by their form, but few fit their maps' roots, but for collisions.
func questions(count int) []question {
	random := rand.New(rand.NewSource(4))
	h := weak()
	var all []question
	for range count {
		q := question{l: randomMap(random), key: randomKey(random)}
		proof := h.prove(q.l, q.key)
		switch random.Intn(4) {
		case 0:
			proof = h.prove(q.l, randomKey(random))
		case 1:
			proof = h.prove(randomMap(random), q.key)
		case 2:
			proof = anotherEnd(proof, q.key, random)
		}
		q.proof = []byte(otherDigests(proof, random))
		all = append(all, q)
	}
	return all
}

// anotherEnd returns the proof with an end at random, a little further outwards or inwards.
func anotherEnd(proof string, key api.Digest, random *rand.Rand) string {
	parts, _ := split(proof)
	s := parts[0][:len(parts[0])-32*random.Intn(len(parts[0])/32+1)]
	for range random.Intn(3) {
		s += str(api.Digest{byte(random.Intn(4))})
	}
	ends := []string{join(), join(str(key), string(rune('a'+random.Intn(6)))), join(str(flip(key, len(s)/32+random.Intn(9))), "a")}
	return join(s, ends[random.Intn(len(ends))])
}

// otherDigests returns the proof with other digests at some places.
func otherDigests(proof string, random *rand.Rand) string {
	parts, _ := split(proof)
	s := []byte(parts[0])
	for at := 0; at < len(s); at += 32 {
		if random.Intn(4) == 0 {
			s[at] = byte(random.Intn(4))
		}
	}
	return join(string(s), parts[1])
}

// kinds returns the kinds of two preimages.
func kinds(a, b string) [2]string {
	left, _ := split(a)
	right, _ := split(b)
	return [2]string{left[0], right[0]}
}

// P4.1, P4.2, P4.3: all is what the chapter's words say, and collisions are found at many depths, of all kinds of preimages.
func testWeakDigests(t *testing.T) {
	h := weak()
	if sha.Sum([]byte("abc")) != h("abc") {
		t.Fatal("the digests are not the weak ones")
	}
	depths, pairs := map[int]int{}, map[[2]string]int{}
	for _, q := range questions(12000) {
		proof, root := string(q.proof), h.root(q.l)
		if trie.Root(q.l) != root || string(trie.Prove(q.l, q.key)) != h.prove(q.l, q.key) {
			t.Fatalf("%x: the root %x, the proof of %x %x", q.l, trie.Root(q.l), q.key, trie.Prove(q.l, q.key))
		}
		value, ok, errno := h.verify(root, q.key, proof)
		answers(t, "weak digests", root, q.key, proof, value, ok, errno)
		a, b, depth, want := h.clash(q.l, q.key, proof)
		gotA, gotB, got := trie.Clash(q.l, q.key, q.proof)
		if got != want || string(gotA) != a || string(gotB) != b {
			t.Fatalf("%x, %x, %x: %x, %x, %v, want %x, %x, %v", q.l, q.key, q.proof, gotA, gotB, got, a, b, want)
		}
		if want {
			depths[depth]++
			pairs[kinds(a, b)]++
			noClash(t, "no proof", q.l, q.key, proof+"\x00")
			noClash(t, "a map that is not valid", append(q.l[:len(q.l):len(q.l)], trie.Entry{}, trie.Entry{}), q.key, proof)
		}
	}
	for depth := range 8 {
		if depths[depth] < 20 {
			t.Errorf("only %d collisions at the depth %d", depths[depth], depth)
		}
	}
	for _, a := range []string{"empty", "leaf", "branch"} {
		for _, b := range []string{"empty", "leaf", "branch"} {
			if pairs[[2]string{a, b}] < 20 && a+b != "emptyempty" {
				t.Errorf("only %d collisions of %s and %s", pairs[[2]string{a, b}], a, b)
			}
		}
	}
}

// P4.4: if other bytes are accepted with a different result, Clash returns two different preimages of one digest.
func testWeakConsequences(t *testing.T) {
	h := weak()
	accepted := 0
	for _, q := range questions(12000) {
		root := trie.Root(q.l)
		value, ok, errno := trie.Verify(root, q.key, q.proof)
		right, there := valueOf(q.l, q.key)
		if errno != api.OK || ok == there && bytes.Equal(value, right) {
			continue
		}
		accepted++
		a, b, ok := trie.Clash(q.l, q.key, q.proof)
		if !ok || bytes.Equal(a, b) || h(string(a)) != h(string(b)) || !slices.Contains(h.along(q.l, q.key), string(a)) {
			t.Fatalf("%x, %x, %x: %x, %x, %v", q.l, q.key, q.proof, a, b, ok)
		}
		own := trie.Prove(q.l, q.key)
		answers(t, "the right proof", root, q.key, string(own), string(right), there, api.OK)
		noClash(t, "the right proof", q.l, q.key, string(own))
	}
	if accepted < 300 {
		t.Errorf("only %d other proofs are accepted: the test is idle", accepted)
	}
}

// P4.4: two maps with the same root are equal, or Clash returns two different preimages of one digest, for a key in which they differ.
func testWeakMaps(t *testing.T) {
	h := weak()
	random := rand.New(rand.NewSource(44))
	alike := 0
	for range 8000 {
		l, m := randomMap(random), randomMap(random)
		if trie.Root(l) != trie.Root(m) || sameMap(l, m) {
			continue
		}
		alike++
		for _, e := range append(l[:len(l):len(l)], m...) {
			value, there := valueOf(l, e.Key)
			other, too := valueOf(m, e.Key)
			if there == too && bytes.Equal(value, other) {
				continue
			}
			proof := trie.Prove(m, e.Key)
			answers(t, "the proof of a map with the same root", trie.Root(l), e.Key, string(proof), string(other), too, api.OK)
			if a, b, ok := trie.Clash(l, e.Key, proof); !ok || bytes.Equal(a, b) || h(string(a)) != h(string(b)) {
				t.Fatalf("%x and %x: %x, %x, %v", l, m, a, b, ok)
			}
		}
	}
	if alike < 300 {
		t.Errorf("only %d maps have the root of another one: the test is idle", alike)
	}
}

// R3: what Clash returns shares no memory with its arguments, nor the one preimage with the other.
func testWeakMemory(t *testing.T) {
	h := weak()
	for _, q := range questions(3000) {
		wantA, wantB, _, ok := h.clash(q.l, q.key, string(q.proof))
		if !ok {
			continue
		}
		l, proof := items(q.l), bytes.Clone(q.proof)
		a, b, _ := trie.Clash(q.l, q.key, q.proof)
		spoil(a)
		if string(b) != wantB {
			t.Fatal("the second preimage changed with the first one")
		}
		spoil(b)
		if !slices.Equal(items(q.l), l) || !bytes.Equal(q.proof, proof) {
			t.Fatal("an argument changed with a preimage")
		}
		a, b, _ = trie.Clash(q.l, q.key, q.proof)
		for _, e := range q.l {
			spoil(e.Value)
		}
		clear(q.l)
		spoil(q.proof)
		if string(a) != wantA || string(b) != wantB {
			t.Fatal("a preimage changed with an argument")
		}
	}
}
