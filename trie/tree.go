package trie

import (
	"sort"

	"wapentake/api"
	"wapentake/sha"
)

// digestBytes is how many bytes a digest has, and maxDepth how many bits.
const (
	digestBytes = 32
	maxDepth    = 8 * digestBytes
)

// bits is a key whose bits are read.
type bits struct{ api.Digest }

// at returns a bit; number 0 is the most significant one of the first byte.
func (b bits) at(number int) byte {
	return b.Digest[number/8] >> (7 - number%8) & 1
}

// begins reports whether the first bits of b, as many as n, are those of the other key.
func (b bits) begins(n int, other bits) bool {
	for number := range n {
		if b.at(number) != other.at(number) {
			return false
		}
	}
	return true
}

// part is the entries of a valid map whose keys have certain first bits, as many as depth.
type part struct {
	entries []Entry
	depth   int
}

func whole(l []Entry) part {
	return part{l, 0}
}

// halves returns the entries whose bit with the number of the depth is 0, and the others.
func (p part) halves() (part, part) {
	zeros := sort.Search(len(p.entries), func(i int) bool {
		return bits{p.entries[i].Key}.at(p.depth) == 1
	})
	return part{p.entries[:zeros], p.depth + 1}, part{p.entries[zeros:], p.depth + 1}
}

func (p part) digest() api.Digest {
	if len(p.entries) < 2 {
		return sha.Sum(endPreimage(p.entries))
	}
	zeros, ones := p.halves()
	return sha.Sum(branchPreimage(zeros.digest(), ones.digest()))
}

// endPreimage returns the preimage of no entries, or of one.
func endPreimage(end []Entry) []byte {
	if len(end) == 0 {
		return sha.Join([]byte("empty"))
	}
	return sha.Join([]byte("leaf"), end[0].Key[:], end[0].Value)
}

// branchPreimage returns the preimage of more entries, the halves of which have the digests a and b.
func branchPreimage(a, b api.Digest) []byte {
	return sha.Join([]byte("branch"), a[:], b[:])
}
