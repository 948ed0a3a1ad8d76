package sha_test

import (
	"bytes"
	"crypto/sha256"
	"encoding/hex"
	"fmt"
	"math/rand"
	"strings"
	"testing"

	"wapentake/api"
	"wapentake/sha"
)

// sample returns n bytes in which no two blocks are alike.
func sample(n int) []byte {
	b := make([]byte, n)
	x := uint32(n) + 1
	for i := range b {
		x = x*1664525 + 1013904223
		b[i] = byte(x >> 24)
	}
	return b
}

func checkDigest(t *testing.T, what string, d sha.Digest, want string) {
	t.Helper()
	if got := hex.EncodeToString(d[:]); got != want {
		t.Errorf("%s: %s, want %s", what, got, want)
	}
}

// P1.1: digests that are published with SHA-256, the chapter's examples among them.
func TestSumOfKnownTexts(t *testing.T) {
	for _, c := range []struct{ text, want string }{
		{"", "e3b0c44298fc1c149afbf4c8996fb92427ae41e4649b934ca495991b7852b855"},
		{"abc", "ba7816bf8f01cfea414140de5dae2223b00361a396177a9cb410ff61f20015ad"},
		{"\xbd", "68325720aabd7c82f30f554b313d0570c95accbb7dc4b5aae11204c08ffe732b"},
		{"\xc9\x8c\x8e\x55", "7abc22c0ae5af26ce93dbb94433a0e0b2e119d014f8e7f65bd56c61ccccd9504"},
		{"abcdbcdecdefdefgefghfghighijhijkijkljklmklmnlmnomnopnopq", "248d6a61d20638b8e5c026930c3e6039a33ce45964ff2167f6ecedd419db06c1"},
		{"abcdefghbcdefghicdefghijdefghijkefghijklfghijklmghijklmnhijklmnoijklmnopjklmnopqklmnopqrlmnopqrsmnopqrstnopqrstu", "cf5b16a778af8380036ce59e7b0492370b249b11e8f07a51afac45037afee9d1"},
		{strings.Repeat("\x00", 55), "02779466cdec163811d078815c633f21901413081449002f24aa3e80f0b88ef7"},
		{strings.Repeat("\x00", 56), "d4817aa5497628e7c77e6b606107042bbba3130888c5f47a375e6179be789fbb"},
		{strings.Repeat("\x00", 57), "65a16cb7861335d5ace3c60718b5052e44660726da4cd13bb745381b235a1785"},
		{strings.Repeat("\x00", 64), "f5a5fd42d16a20302798ef6ed309979b43003d2320d9f0e8ea9831a92759fb4b"},
		{strings.Repeat("a", 1000000), "cdc76e5c9914fb9281a1c7e284d73e67f1809a48a497200e046d39ccc7112cd0"},
	} {
		checkDigest(t, fmt.Sprintf("Sum of %d bytes", len(c.text)), sha.Sum([]byte(c.text)), c.want)
	}
	if sha.Sum(nil) != sha.Sum([]byte{}) {
		t.Error("Sum of nil and Sum of no bytes differ")
	}
}

// P1.1: every length up to five blocks stands on either side of 56 modulo 64 and of whole blocks.
func TestSumOfEveryLength(t *testing.T) {
	for n := range 5*64 + 2 {
		b := sample(n)
		if got, want := sha.Sum(b), sha.Digest(sha256.Sum256(b)); got != want {
			t.Errorf("%d bytes: %x, want %x", n, got, want)
		}
	}
	for _, n := range []int{1<<12 - 9, 1<<12 - 8, 1<<12 - 1, 1 << 12, 1<<16 + 1, api.MaxBytes} {
		b := sample(n)
		if got, want := sha.Sum(b), sha.Digest(sha256.Sum256(b)); got != want {
			t.Errorf("%d bytes: %x, want %x", n, got, want)
		}
	}
}

// P1.1: from 2^29 bytes on the length in bits takes more than 4 of its 8 bytes.
func TestSumOfLengthBeyondFourBytesOfBits(t *testing.T) {
	chunk := sample(1 << 20)
	h, want := sha.New(), sha256.New()
	for range 512 {
		h.Write(chunk)
		want.Write(chunk)
	}
	if d := h.Sum(); !bytes.Equal(d[:], want.Sum(nil)) {
		t.Errorf("2^29 bytes: %x", d)
	}
	h.Write([]byte("x"))
	want.Write([]byte("x"))
	if d := h.Sum(); !bytes.Equal(d[:], want.Sum(nil)) {
		t.Errorf("2^29 + 1 bytes: %x", d)
	}
}

// P1.3: a hash to which nothing, or only empty pieces, were written.
func TestHashOfNothing(t *testing.T) {
	h := sha.New()
	if h.Sum() != sha.Sum(nil) {
		t.Error("a new hash has not the digest of no bytes")
	}
	h.Write(nil)
	h.Write([]byte{})
	if h.Sum() != sha.Sum(nil) {
		t.Error("empty pieces changed the digest")
	}
}

// P1.3, P1.4: two pieces, cut at every place.
func TestHashOfTwoPieces(t *testing.T) {
	for _, n := range []int{1, 55, 56, 63, 64, 65, 119, 120, 121, 128, 129, 200} {
		b := sample(n)
		want := sha.Sum(b)
		for cut := range n + 1 {
			h := sha.New()
			h.Write(b[:cut])
			h.Write(b[cut:])
			if h.Sum() != want {
				t.Errorf("%d bytes, cut at %d: another digest", n, cut)
			}
		}
	}
}

// P1.3, P1.4: pieces of one length each, and of lengths that vary, with and without Sum between them.
func TestHashOfManyPieces(t *testing.T) {
	b := sample(700)
	for size := 1; size <= 130; size++ {
		asked, unasked := sha.New(), sha.New()
		for from := 0; from < len(b); from += size {
			to := min(from+size, len(b))
			asked.Write(b[from:to])
			unasked.Write(b[from:to])
			if asked.Sum() != sha.Sum(b[:to]) {
				t.Fatalf("pieces of %d: wrong behind %d bytes", size, to)
			}
		}
		if unasked.Sum() != sha.Sum(b) {
			t.Errorf("pieces of %d: wrong without Sum between writes", size)
		}
	}
	random := rand.New(rand.NewSource(1))
	for range 200 {
		h := sha.New()
		for from := 0; from < len(b); {
			to := min(from+random.Intn(150), len(b))
			h.Write(b[from:to])
			from = to
		}
		if h.Sum() != sha.Sum(b) {
			t.Fatal("pieces of varying lengths: another digest")
		}
	}
}

// P1.3: Sum changes nothing, however often it is asked.
func TestHashSumAgain(t *testing.T) {
	for n := range 130 {
		b := sample(n)
		h := sha.New()
		h.Write(b)
		first := h.Sum()
		if h.Sum() != first || first != sha.Sum(b) {
			t.Errorf("%d bytes: Sum changed the hash", n)
		}
		h.Write([]byte("more"))
		if h.Sum() != sha.Sum(append(b, "more"...)) {
			t.Errorf("%d bytes: wrong when more was written behind Sum", n)
		}
	}
}

// R4: each hash is of what was written to it alone.
func TestHashesAreApart(t *testing.T) {
	x, y := sha.New(), sha.New()
	x.Write(sample(70))
	y.Write(sample(90))
	if x.Sum() != sha.Sum(sample(70)) || y.Sum() != sha.Sum(sample(90)) || sha.New().Sum() != sha.Sum(nil) {
		t.Error("a hash changed another one")
	}
}

// R3: Write keeps nothing of its argument, and changes nothing in it or behind it.
func TestWriteKeepsNoArgument(t *testing.T) {
	for n := range 200 {
		whole := append(sample(n), "behind"...)
		h := sha.New()
		h.Write(whole[:n])
		h.Sum()
		if !bytes.Equal(whole, append(sample(n), "behind"...)) {
			t.Fatalf("%d bytes: Write or Sum changed the argument", n)
		}
		clear(whole)
		if h.Sum() != sha.Sum(sample(n)) {
			t.Fatalf("%d bytes: the hash holds on to the argument", n)
		}
	}
}

// R3, R4: Sum of bytes changes nothing in them or behind them.
func TestSumChangesNoArgument(t *testing.T) {
	for n := range 200 {
		whole := append(sample(n), "behind"...)
		first := sha.Sum(whole[:n])
		if !bytes.Equal(whole, append(sample(n), "behind"...)) {
			t.Fatalf("%d bytes: Sum changed the argument", n)
		}
		if sha.Sum(whole[:n]) != first {
			t.Fatalf("%d bytes: the second Sum differs", n)
		}
	}
}

// The chapter's signatures: Digest is api's own type.
func TestDigestIsAnAlias(t *testing.T) {
	var _ api.Digest = sha.Sum(nil)
	var _ func(...[]byte) api.Digest = sha.Of
}
