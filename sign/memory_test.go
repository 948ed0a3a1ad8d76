package sign_test

import (
	"bytes"
	"testing"

	"wapentake/api"
)

// roomy returns the text with room behind it that is not its own.
func roomy(text string) []byte {
	b := bytes.Repeat([]byte{'.'}, len(text)+40)
	copy(b, text)
	return b[:len(text)]
}

// same tells whether nothing changed, in the text and behind it.
func same(b []byte, text string) bool {
	fresh := roomy(text)
	return bytes.Equal(b[:cap(b)], fresh[:cap(fresh)])
}

// spoil changes all bytes, those that append would reach as well.
func spoil(b []byte) {
	b = b[:cap(b)]
	for i := range b {
		b[i] ^= 255
	}
}

// R3: no function changes its arguments, nor what stands behind them.
func TestArgumentsAreNotChanged(t *testing.T) {
	r := ring(t, 2, 3)
	s := signer(t, r, 1, 0)
	for _, text := range texts() {
		b := roomy(text)
		right, _ := r.Sign(0, 1, b)
		r.Sign(0, 1, b)
		r.Sign(0, 3, b)
		r.Sign(2, 0, b)
		r.Check(0, b, right)
		r.Check(1, b, right)
		r.Check(2, b, api.Sig{})
		s.Sign(b)
		if !same(b, text) {
			t.Fatalf("%q changed", brief(text))
		}
	}
}

// R3: what was recorded is what the texts were then, whatever the caller does with them afterwards.
func TestTextsThatChangeAfterwards(t *testing.T) {
	for _, text := range texts() {
		r := ring(t, 2, 3)
		s := signer(t, r, 1, 2)
		a, b := roomy(text), roomy(text)
		byRing, _ := r.Sign(0, 1, a)
		bySigner, _ := s.Sign(b)
		spoil(a)
		spoil(b)
		checks(t, r, 0, text, byRing, true)
		checks(t, r, 1, text, bySigner, true)
		if text != "" {
			checks(t, r, 0, string(a), byRing, false)
			checks(t, r, 0, string(a), sig(0, 1, string(a)), false)
			checks(t, r, 1, string(b), sig(1, 2, string(b)), false)
		}
		signs(t, r, 0, 1, text)
		has(t, r, 0, 1, false)
		has(t, r, 1, 1, false)
	}
}

// R3: one piece of memory may hold one text after the other.
func TestTextsInOnePlace(t *testing.T) {
	r := ring(t, 1, 3)
	s := signer(t, r, 0, 1)
	b := make([]byte, 1)
	for _, c := range []byte("abc") {
		b[0] = c
		r.Sign(0, 0, b)
	}
	b[0] = 'x'
	s.Sign(b)
	b[0] = 'y'
	s.Sign(b)
	has(t, r, 0, 5, true)
	for _, text := range []string{"a", "b", "c"} {
		checks(t, r, 0, text, sig(0, 0, text), true)
	}
	checks(t, r, 0, "x", sig(0, 1, "x"), true)
	checks(t, r, 0, "y", sig(0, 2, "y"), true)
	checks(t, r, 0, "y", sig(0, 1, "y"), false)
}

// R3: a signature is the caller's: what he does with it changes nothing that was recorded.
func TestSignaturesThatChangeAfterwards(t *testing.T) {
	r := ring(t, 1, 3)
	s := signs(t, r, 0, 1, "text")
	kept := s
	s.Tag[0] ^= 1
	s.Index++
	checks(t, r, 0, "text", s, false)
	checks(t, r, 0, "text", kept, true)
	if again := signs(t, r, 0, 1, "text"); again != kept {
		t.Fatalf("%x, and then %x", kept, again)
	}
}
