package merkle

import (
	"math/bits"

	"wapentake/api"
	"wapentake/sha"
)

// numberBytes is how many bytes a number takes in a preimage.
const numberBytes = 8

// span is a sublist: the elements with the indices from, up to to without it.
type span struct{ from, to int }

// digest returns the digest of a list.
func digest(l [][]byte) api.Digest {
	var of func(s span) api.Digest
	of = func(s span) api.Digest {
		switch s.to - s.from {
		case 0:
			return sha.Of([]byte("none"))
		case 1:
			return sha.Sum(leafPreimage(l[s.from]))
		}
		first, others := halves(s)
		return sha.Sum(nodePreimage(of(first), of(others)))
	}
	return of(span{0, len(l)})
}

// siblings returns the sibling sublists of the index i of a list of n elements, from the element outwards.
func siblings(n, i int) []span {
	var beside []span
	var enter func(s span)
	enter = func(s span) {
		if s.to-s.from == 1 {
			return
		}
		inside, outside := halves(s)
		if i >= outside.from {
			inside, outside = outside, inside
		}
		enter(inside)
		beside = append(beside, outside)
	}
	enter(span{0, n})
	return beside
}

// halves returns the two sublists that a sublist of at least two elements consists of.
func halves(s span) (span, span) {
	k := 1 << (bits.Len(uint(s.to-s.from-1)) - 1) // the greatest power of 2 below the number of elements
	return span{s.from, s.from + k}, span{s.from + k, s.to}
}

func leafPreimage(element []byte) []byte {
	return sha.Join([]byte("leaf"), element)
}

func nodePreimage(a, b api.Digest) []byte {
	return sha.Join([]byte("node"), a[:], b[:])
}

// rootPreimage returns the preimage of the root of a list of n elements that has the digest d.
func rootPreimage(n int, d api.Digest) []byte {
	return sha.Join([]byte("list"), number(n), d[:])
}

func number(n int) []byte {
	b := make([]byte, numberBytes)
	for i := range b {
		b[i] = byte(uint64(n) >> (8 * (numberBytes - 1 - i)))
	}
	return b
}
