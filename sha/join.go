package sha

import "bytes"

// numberBytes is how many bytes a number takes in a joined encoding.
const numberBytes = 8

// Join returns the joined encoding of the parts.
func Join(parts ...[]byte) []byte {
	size := numberBytes
	for _, p := range parts {
		size += numberBytes + len(p)
	}
	joined := appendNumber(make([]byte, 0, size), len(parts))
	for _, p := range parts {
		joined = appendNumber(joined, len(p))
		joined = append(joined, p...)
	}
	return joined
}

// Split returns the parts whose joined encoding is b, and true; false if there are none.
func Split(b []byte) ([][]byte, bool) {
	count, rest, ok := takeNumber(b)
	// Each part takes a number at least: a greater count is refused before memory is taken for it.
	if !ok || count > uint64(len(rest)/numberBytes) {
		return nil, false
	}
	parts := make([][]byte, 0, count)
	for range count {
		length, behind, ok := takeNumber(rest)
		if !ok || length > uint64(len(behind)) {
			return nil, false
		}
		parts = append(parts, bytes.Clone(behind[:length]))
		rest = behind[length:]
	}
	if len(rest) > 0 {
		return nil, false
	}
	return parts, true
}

// Of returns the digest of the joined encoding of the parts.
func Of(parts ...[]byte) Digest {
	return Sum(Join(parts...))
}

func appendNumber(b []byte, n int) []byte {
	for shift := 8 * (numberBytes - 1); shift >= 0; shift -= 8 {
		b = append(b, byte(uint64(n)>>shift))
	}
	return b
}

// takeNumber returns the number at the front of b, and the bytes behind it; false if b is too short.
func takeNumber(b []byte) (uint64, []byte, bool) {
	if len(b) < numberBytes {
		return 0, nil, false
	}
	n := uint64(0)
	for _, x := range b[:numberBytes] {
		n = n<<8 | uint64(x)
	}
	return n, b[numberBytes:], true
}
