package sign

import "wapentake/api"

// Signer signs with one key of a ring, with one index after the other.
type Signer struct {
	ring *Ring
	key  int
	next int64
}

// Signer returns a signer of the key, whose next index is next, but at least 0; nil if there is no such key.
func (r *Ring) Signer(key int, next int64) *Signer {
	if !r.has(key) {
		return nil
	}
	return &Signer{ring: r, key: key, next: max(next, 0)}
}

// Next returns the next index.
func (s *Signer) Next() int64 { return s.next }

// Sign signs a text with the next index.
func (s *Signer) Sign(text []byte) (api.Sig, api.Errno) {
	sig, errno := s.ring.Sign(s.key, s.next, text)
	// An index that the ring refuses is not passed over, so the next one never grows beyond what an int64 holds.
	if errno == api.OK {
		s.next++
	}
	return sig, errno
}
