package sign_test

import (
	"crypto/sha256"
	"encoding/binary"
	"slices"
	"strings"
	"testing"

	"wapentake/api"
	"wapentake/sign"
)

func num(n int64) string {
	return string(binary.BigEndian.AppendUint64(nil, uint64(n)))
}

// tag is the chapter's words over crypto/sha256: the digest of the joined encoding of "sign", key, index and text.
func tag(key int, index int64, text string) api.Digest {
	var joined strings.Builder
	joined.WriteString(num(4))
	for _, p := range []string{"sign", num(int64(key)), num(index), text} {
		joined.WriteString(num(int64(len(p))))
		joined.WriteString(p)
	}
	return sha256.Sum256([]byte(joined.String()))
}

// sig is the signature of a signing, whether it was made or not.
func sig(key int, index int64, text string) api.Sig {
	return api.Sig{Index: index, Tag: tag(key, index, text)}
}

// signing is one that was made.
type signing struct {
	key   int
	index int64
	text  string
}

// reference is the chapter's ring once more: all signings, each of them once, asked one by one.
type reference struct {
	keys   int
	budget int64
	made   []signing
}

func (r *reference) sign(key int, index int64, text string) (api.Sig, api.Errno) {
	switch {
	case key < 0 || key >= r.keys:
		return api.Sig{}, api.ErrRange
	case index < 0 || index >= r.budget:
		return api.Sig{}, api.ErrBudget
	}
	if s := (signing{key, index, text}); !slices.Contains(r.made, s) {
		r.made = append(r.made, s)
	}
	return sig(key, index, text), api.OK
}

func (r *reference) check(key int, text string, s api.Sig) bool {
	return slices.Contains(r.made, signing{key, s.Index, text}) && s.Tag == tag(key, s.Index, text)
}

func (r *reference) reused(key int) bool {
	for i, a := range r.made {
		for _, b := range r.made[:i] {
			if a.key == key && b.key == key && a.index == b.index && a.text != b.text {
				return true
			}
		}
	}
	return false
}

func (r *reference) count(key int) int {
	n := 0
	for _, s := range r.made {
		if s.key == key {
			n++
		}
	}
	return n
}

// ring returns a new ring, which there is.
func ring(t *testing.T, keys int, budget int64) *sign.Ring {
	t.Helper()
	r := sign.New(keys, budget)
	if r == nil {
		t.Fatalf("New(%d, %d): no ring", keys, budget)
	}
	return r
}

// signer returns a new signer, which there is.
func signer(t *testing.T, r *sign.Ring, key int, next int64) *sign.Signer {
	t.Helper()
	s := r.Signer(key, next)
	if s == nil {
		t.Fatalf("Signer(%d, %d): no signer", key, next)
	}
	return s
}

// brief keeps long texts out of what a failed test tells.
func brief(text string) string {
	if len(text) > 20 {
		return text[:20] + "..."
	}
	return text
}

// signs makes a signing, which is possible, and returns its signature.
func signs(t *testing.T, r *sign.Ring, key int, index int64, text string) api.Sig {
	t.Helper()
	s, errno := r.Sign(key, index, []byte(text))
	if s != sig(key, index, text) || errno != api.OK {
		t.Fatalf("Sign(%d, %d, %q): %x, %d", key, index, brief(text), s, errno)
	}
	return s
}

// refuses has a signing refused.
func refuses(t *testing.T, r *sign.Ring, key int, index int64, text string, want api.Errno) {
	t.Helper()
	if s, errno := r.Sign(key, index, []byte(text)); s != (api.Sig{}) || errno != want {
		t.Fatalf("Sign(%d, %d, %q): %x, %d, want no signature, %d", key, index, brief(text), s, errno, want)
	}
}

func checks(t *testing.T, r *sign.Ring, key int, text string, s api.Sig, want bool) {
	t.Helper()
	if got := r.Check(key, []byte(text), s); got != want {
		t.Fatalf("Check(%d, %q, %x): %v", key, brief(text), s, got)
	}
}

// has looks at how many signings a key has, and whether it was reused.
func has(t *testing.T, r *sign.Ring, key, made int, reused bool) {
	t.Helper()
	if r.Made(key) != made || r.Reused(key) != reused {
		t.Fatalf("key %d: Made %d, Reused %v, want %d, %v", key, r.Made(key), r.Reused(key), made, reused)
	}
}

// signsNext signs by a signer, which has an index left.
func signsNext(t *testing.T, s *sign.Signer, key int, index int64, text string) api.Sig {
	t.Helper()
	if s.Next() != index {
		t.Fatalf("key %d: Next() %d, want %d", key, s.Next(), index)
	}
	got, errno := s.Sign([]byte(text))
	if got != sig(key, index, text) || errno != api.OK || s.Next() != index+1 {
		t.Fatalf("key %d, index %d, %q: %x, %d, and then Next() %d", key, index, brief(text), got, errno, s.Next())
	}
	return got
}

// refusesNext has a signer refuse.
func refusesNext(t *testing.T, s *sign.Signer, next int64, text string) {
	t.Helper()
	got, errno := s.Sign([]byte(text))
	if got != (api.Sig{}) || errno != api.ErrBudget || s.Next() != next {
		t.Fatalf("%q: %x, %d, and then Next() %d, want no signature, %d, %d", brief(text), got, errno, s.Next(), api.ErrBudget, next)
	}
}
