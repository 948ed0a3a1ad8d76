// Package sha is layer 1: SHA-256, and the joined encoding of several byte strings.
package sha

import (
	"math/bits"

	"wapentake/api"
)

// Digest is a SHA-256 digest.
type Digest = api.Digest

const (
	blockBytes = 64
	wordBytes  = 4
	// lengthPlace is where a last block holds the length of all.
	lengthPlace = 56
)

// initials are the first 32 fractional bits of the square roots of the first eight primes.
var initials = [8]uint32{
	0x6a09e667, 0xbb67ae85, 0x3c6ef372, 0xa54ff53a, 0x510e527f, 0x9b05688c, 0x1f83d9ab, 0x5be0cd19,
}

// constants are the first 32 fractional bits of the cube roots of the first sixty-four primes.
var constants = [64]uint32{
	0x428a2f98, 0x71374491, 0xb5c0fbcf, 0xe9b5dba5, 0x3956c25b, 0x59f111f1, 0x923f82a4, 0xab1c5ed5,
	0xd807aa98, 0x12835b01, 0x243185be, 0x550c7dc3, 0x72be5d74, 0x80deb1fe, 0x9bdc06a7, 0xc19bf174,
	0xe49b69c1, 0xefbe4786, 0x0fc19dc6, 0x240ca1cc, 0x2de92c6f, 0x4a7484aa, 0x5cb0a9dc, 0x76f988da,
	0x983e5152, 0xa831c66d, 0xb00327c8, 0xbf597fc7, 0xc6e00bf3, 0xd5a79147, 0x06ca6351, 0x14292967,
	0x27b70a85, 0x2e1b2138, 0x4d2c6dfc, 0x53380d13, 0x650a7354, 0x766a0abb, 0x81c2c92e, 0x92722c85,
	0xa2bfe8a1, 0xa81a664b, 0xc24b8b70, 0xc76c51a3, 0xd192e819, 0xd6990624, 0xf40e3585, 0x106aa070,
	0x19a4c116, 0x1e376c08, 0x2748774c, 0x34b0bcb5, 0x391c0cb3, 0x4ed8aa4a, 0x5b9cca4f, 0x682e6ff3,
	0x748f82ee, 0x78a5636f, 0x84c87814, 0x8cc70208, 0x90befffa, 0xa4506ceb, 0xbef9a3f7, 0xc67178f2,
}

// Sum returns the SHA-256 digest of b.
func Sum(b []byte) Digest {
	h := New()
	h.Write(b)
	return h.Sum()
}

// Hash computes the digest of bytes that are written in pieces.
type Hash struct {
	state  [8]uint32
	rest   [blockBytes]byte // begins with the written bytes that do not fill a block yet
	length uint64           // of all that was written, in bytes
}

// New returns a hash to which nothing was written.
func New() *Hash {
	return &Hash{state: initials}
}

// Write appends b to what was written.
func (h *Hash) Write(b []byte) {
	held := int(h.length % blockBytes)
	h.length += uint64(len(b))
	if held > 0 {
		n := copy(h.rest[held:], b)
		if held+n < blockBytes {
			return
		}
		mix(&h.state, h.rest[:])
		b = b[n:]
	}
	for len(b) >= blockBytes {
		mix(&h.state, b[:blockBytes])
		b = b[blockBytes:]
	}
	copy(h.rest[:], b)
}

// Sum returns the digest of everything that was written; more can be written afterwards.
func (h *Hash) Sum() Digest {
	padded := *h // padding h itself would spoil later writes
	padded.pad()
	var d Digest
	for i, x := range padded.state {
		putWord(d[wordBytes*i:], x)
	}
	return d
}

// pad mixes in the end of the padded bytes: 0x80, zero bytes and the length. Nothing can be written afterwards.
func (h *Hash) pad() {
	lengthInBits := h.length * 8
	h.Write([]byte{0x80})
	held := int(h.length % blockBytes)
	if held > lengthPlace { // the length has no room in this block
		clear(h.rest[held:])
		mix(&h.state, h.rest[:])
		held = 0
	}
	clear(h.rest[held:lengthPlace])
	putWord(h.rest[lengthPlace:], uint32(lengthInBits>>32))
	putWord(h.rest[lengthPlace+wordBytes:], uint32(lengthInBits))
	mix(&h.state, h.rest[:])
}

// mix adds one block of 64 bytes to a state.
func mix(state *[8]uint32, block []byte) {
	w := schedule(block)
	// Eight variables, not an array: the compiler keeps them in registers.
	a, b, c, d := state[0], state[1], state[2], state[3]
	e, f, g, h := state[4], state[5], state[6], state[7]
	for t := range w {
		t1 := h + sum1(e) + (e&f ^ ^e&g) + constants[t] + w[t]
		t2 := sum0(a) + (a&b ^ a&c ^ b&c)
		h, g, f, e = g, f, e, d+t1
		d, c, b, a = c, b, a, t1+t2
	}
	for i, x := range [8]uint32{a, b, c, d, e, f, g, h} {
		state[i] += x
	}
}

// schedule returns the sixty-four words w that a block is spread to.
func schedule(block []byte) [64]uint32 {
	var w [64]uint32
	for t := range 16 {
		w[t] = word(block[wordBytes*t:])
	}
	for t := 16; t < len(w); t++ {
		w[t] = small1(w[t-2]) + w[t-7] + small0(w[t-15]) + w[t-16]
	}
	return w
}

func small0(x uint32) uint32 { return rot(x, 7) ^ rot(x, 18) ^ x>>3 }
func small1(x uint32) uint32 { return rot(x, 17) ^ rot(x, 19) ^ x>>10 }
func sum0(x uint32) uint32   { return rot(x, 2) ^ rot(x, 13) ^ rot(x, 22) }
func sum1(x uint32) uint32   { return rot(x, 6) ^ rot(x, 11) ^ rot(x, 25) }

// rot returns x rotated right by n bits.
func rot(x uint32, n int) uint32 { return bits.RotateLeft32(x, -n) }

func word(b []byte) uint32 {
	return uint32(b[0])<<24 | uint32(b[1])<<16 | uint32(b[2])<<8 | uint32(b[3])
}

func putWord(b []byte, x uint32) {
	b[0], b[1], b[2], b[3] = byte(x>>24), byte(x>>16), byte(x>>8), byte(x)
}
