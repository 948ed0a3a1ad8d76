package trie

import (
	"iter"

	"wapentake/api"
	"wapentake/sha"
)

// trail is what a proof tells of a key's path.
type trail struct {
	siblings []byte  // their digests, from depth 0 on
	end      []Entry // one, or none
}

// trailOf returns the trail of the key in a valid map.
func trailOf(l []Entry, key api.Digest) trail {
	var siblings []byte
	wanted, p := bits{key}, whole(l)
	for len(p.entries) > 1 {
		inside, outside := p.halves()
		if wanted.at(p.depth) == 1 {
			inside, outside = outside, inside
		}
		d := outside.digest()
		siblings = append(siblings, d[:]...)
		p = inside
	}
	return trail{siblings, p.entries}
}

// encode returns the proof that tells t.
func (t trail) encode() []byte {
	if len(t.end) == 0 {
		return sha.Join(t.siblings, sha.Join())
	}
	return sha.Join(t.siblings, sha.Join(t.end[0].Key[:], t.end[0].Value))
}

// read returns what a proof tells: ErrForm if it is no proof, ErrProof if its entry is not on the path of the key.
func read(key api.Digest, proof []byte) (trail, api.Errno) {
	t, ok := decode(proof)
	if !ok {
		return trail{}, api.ErrForm
	}
	for _, e := range t.end {
		if !(bits{e.Key}).begins(t.depth(), bits{key}) {
			return trail{}, api.ErrProof
		}
	}
	return t, api.OK
}

// decode returns what a proof tells, and true; false if it is no proof by its form.
func decode(proof []byte) (trail, bool) {
	parts, ok := sha.Split(proof)
	if !ok || len(parts) != 2 {
		return trail{}, false
	}
	siblings := parts[0]
	if len(siblings)%digestBytes != 0 || len(siblings) > maxDepth*digestBytes {
		return trail{}, false
	}
	end, ok := decodeEnd(parts[1])
	return trail{siblings, end}, ok
}

// decodeEnd returns the entry at the end of a path, or none, and true; false if b describes no end.
func decodeEnd(b []byte) ([]Entry, bool) {
	parts, ok := sha.Split(b)
	switch {
	case ok && len(parts) == 0:
		return nil, true
	case ok && len(parts) == 2 && len(parts[0]) == digestBytes:
		return []Entry{{toDigest(parts[0]), parts[1]}}, true
	}
	return nil, false
}

func toDigest(b []byte) api.Digest {
	var d api.Digest
	copy(d[:], b)
	return d
}

// depth returns the depth of the path's end.
func (t trail) depth() int {
	return len(t.siblings) / digestBytes
}

// outwards iterates the digests of the siblings, from the path's end to the root; each comes with the depth at which the path parts from it.
func (t trail) outwards() iter.Seq2[int, api.Digest] {
	return func(yield func(int, api.Digest) bool) {
		for depth := t.depth() - 1; depth >= 0; depth-- {
			if !yield(depth, toDigest(t.siblings[depth*digestBytes:])) {
				return
			}
		}
	}
}

// preimages returns the preimages that are computed along the path of the key, from the root's on.
func (t trail) preimages(key api.Digest) [][]byte {
	wanted, inner := bits{key}, endPreimage(t.end)
	preimages := make([][]byte, t.depth()+1)
	preimages[t.depth()] = inner
	for depth, sibling := range t.outwards() {
		a, b := sha.Sum(inner), sibling
		if wanted.at(depth) == 1 {
			a, b = b, a
		}
		inner = branchPreimage(a, b)
		preimages[depth] = inner
	}
	return preimages
}
