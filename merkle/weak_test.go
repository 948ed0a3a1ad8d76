package merkle_test

import (
	"bytes"
	"crypto/sha256"
	"encoding/json"
	"math/rand"
	"os"
	"os/exec"
	"path/filepath"
	"slices"
	"strings"
	"testing"

	"wapentake/api"
	"wapentake/merkle"
	"wapentake/sha"
)

// Nobody knows a collision of SHA-256, so what Clash returns of one is tested on a package sha that has few digests:
// a second run of the go command has weakSha in its place (nothing is written to the project).

// weakMark is set in the environment of the second run.
const weakMark = "WAPENTAKE_WEAK_DIGESTS"

// weakSha is a package sha whose digests are the lowest two bits of the first byte of the real ones.
const weakSha = `package sha

import "wapentake/realsha"

type Digest = sha.Digest

type Hash struct{ real *sha.Hash }

func New() *Hash                      { return &Hash{sha.New()} }
func (h *Hash) Write(b []byte)        { h.real.Write(b) }
func (h *Hash) Sum() Digest           { return Digest{h.real.Sum()[0] & 3} }
func Sum(b []byte) Digest             { return Digest{sha.Sum(b)[0] & 3} }
func Join(parts ...[]byte) []byte     { return sha.Join(parts...) }
func Split(b []byte) ([][]byte, bool) { return sha.Split(b) }
func Of(parts ...[]byte) Digest       { return Sum(Join(parts...)) }
`

// weak is over the digests of weakSha.
func weak() reference {
	return func(s string) api.Digest { return api.Digest{sha256.Sum256([]byte(s))[0] & 3} }
}

// overlay writes a file by which the go command takes weakSha for the package sha, and the package sha for realsha.
func overlay(t *testing.T) string {
	root, err := filepath.Abs("..")
	if err != nil {
		t.Fatal(err)
	}
	files, err := filepath.Glob(filepath.Join(root, "sha", "*.go"))
	if err != nil || len(files) == 0 {
		t.Fatal("no package sha", err)
	}
	replaced := map[string]string{}
	for _, f := range files {
		replaced[f] = ""
		if !strings.HasSuffix(f, "_test.go") {
			replaced[filepath.Join(root, "realsha", filepath.Base(f))] = f
		}
	}
	stand := filepath.Join(t.TempDir(), "weak.go")
	if err := os.WriteFile(stand, []byte(weakSha), 0o600); err != nil {
		t.Fatal(err)
	}
	replaced[filepath.Join(root, "sha", "weaksha.go")] = stand
	b, err := json.Marshal(map[string]any{"Replace": replaced})
	if err != nil {
		t.Fatal(err)
	}
	name := filepath.Join(t.TempDir(), "overlay.json")
	if err := os.WriteFile(name, b, 0o600); err != nil {
		t.Fatal(err)
	}
	return name
}

// P3.1 to P3.4, R3, on digests that collide: the test runs itself once more.
func TestOnWeakDigests(t *testing.T) {
	if os.Getenv(weakMark) != "" {
		t.Run("digests", testWeakDigests)
		t.Run("consequences", testWeakConsequences)
		t.Run("memory", testWeakMemory)
		return
	}
	c := exec.Command("go", "test", "-vet=off", "-count=1", "-v", "-overlay", overlay(t), "-run", "^TestOnWeakDigests$", ".")
	c.Env = append(os.Environ(), weakMark+"=1", "GOPROXY=off", "CGO_ENABLED=0")
	out, err := c.CombinedOutput()
	if err != nil || bytes.Count(out, []byte("--- PASS: TestOnWeakDigests/")) != 3 {
		t.Fatalf("%v\n%s", err, out)
	}
}

// proof is what Verify and Clash are asked about.
type proof struct {
	l       [][]byte
	i       int
	element []byte
	path    []api.Digest
}

// proofs returns proofs, of which few fit their lists' roots, but for collisions.
func proofs(count int) []proof {
	random := rand.New(rand.NewSource(3))
	var all []proof
	for range count {
		p := proof{l: make([][]byte, 1+random.Intn(9))}
		for j := range p.l {
			p.l[j] = []byte{byte('a' + random.Intn(6))}
		}
		p.i = random.Intn(len(p.l))
		p.element = []byte{byte('a' + random.Intn(6))}
		p.path, _ = merkle.Prove(p.l, p.i)
		for j := range p.path {
			if random.Intn(3) == 0 {
				p.path[j] = api.Digest{byte(random.Intn(4))}
			}
		}
		all = append(all, p)
	}
	return all
}

// P3.1, P3.2, P3.3: all is what the chapter's words say, and collisions are found at each level.
func testWeakDigests(t *testing.T) {
	h := weak()
	if sha.Sum([]byte("abc")) != h("abc") {
		t.Fatal("the digests are not the weak ones")
	}
	found := map[int]int{}
	for _, p := range proofs(30000) {
		n := len(p.l)
		if path, ok := merkle.Prove(p.l, p.i); merkle.Root(p.l) != h.root(p.l) || !ok || !slices.Equal(path, h.path(p.l, p.i)) {
			t.Fatalf("%q: the root %x, the path of %d %x, %v", p.l, merkle.Root(p.l), p.i, path, ok)
		}
		if got := merkle.Verify(h.root(p.l), n, p.i, p.element, p.path); got != h.verify(h.root(p.l), n, p.i, string(p.element), p.path) {
			t.Fatalf("%q, %d: %q, %x: %v", p.l, p.i, p.element, p.path, got)
		}
		a, b, level, want := h.clash(p.l, p.i, string(p.element), p.path)
		gotA, gotB, got := merkle.Clash(p.l, p.i, p.element, p.path)
		if got != want || string(gotA) != a || string(gotB) != b {
			t.Fatalf("%q, %d: %q, %x: %x, %x, %v, want %x, %x, %v", p.l, p.i, p.element, p.path, gotA, gotB, got, a, b, want)
		}
		if want {
			found[level]++
		}
		noClash(t, "a path of another length", p.l, p.i, p.element, append(p.path, api.Digest{}))
		noClash(t, "no index", p.l, n, p.element, p.path)
		noClash(t, "no index", p.l, -1, p.element, p.path)
	}
	for level := range 5 {
		if found[level] < 20 {
			t.Errorf("only %d collisions at level %d from the root inwards", found[level], level)
		}
	}
}

// P3.4: if another element is accepted, Clash returns two different preimages of one digest.
func testWeakConsequences(t *testing.T) {
	h := weak()
	accepted := 0
	for _, p := range proofs(30000) {
		right, _ := merkle.Prove(p.l, p.i)
		if !merkle.Verify(merkle.Root(p.l), len(p.l), p.i, p.l[p.i], right) {
			t.Fatalf("%q: the path of %d is not accepted", p.l, p.i)
		}
		noClash(t, "the right element and path", p.l, p.i, p.l[p.i], right)
		if bytes.Equal(p.element, p.l[p.i]) || !merkle.Verify(merkle.Root(p.l), len(p.l), p.i, p.element, p.path) {
			continue
		}
		accepted++
		a, b, ok := merkle.Clash(p.l, p.i, p.element, p.path)
		if !ok || bytes.Equal(a, b) || h(string(a)) != h(string(b)) || !slices.Contains(h.along(p.l, p.i), string(a)) {
			t.Fatalf("%q, %d: %q, %x: %x, %x, %v", p.l, p.i, p.element, p.path, a, b, ok)
		}
	}
	if accepted < 1000 {
		t.Errorf("only %d other elements are accepted: the test is idle", accepted)
	}
}

// R3: what Clash returns shares no memory with its arguments, nor the one preimage with the other.
func testWeakMemory(t *testing.T) {
	h := weak()
	for _, p := range proofs(3000) {
		wantA, wantB, _, ok := h.clash(p.l, p.i, string(p.element), p.path)
		if !ok {
			continue
		}
		list, element, path := join(toStrings(p.l)...), string(p.element), slices.Clone(p.path)
		a, b, _ := merkle.Clash(p.l, p.i, p.element, p.path)
		spoil(a)
		if string(b) != wantB {
			t.Fatal("the second preimage changed with the first one")
		}
		spoil(b)
		if join(toStrings(p.l)...) != list || string(p.element) != element || !slices.Equal(p.path, path) {
			t.Fatal("an argument changed with a preimage")
		}
		a, b, _ = merkle.Clash(p.l, p.i, p.element, p.path)
		for j := range p.l {
			spoil(p.l[j])
		}
		spoil(p.element)
		clear(p.path)
		if string(a) != wantA || string(b) != wantB {
			t.Fatal("a preimage changed with an argument")
		}
	}
}
