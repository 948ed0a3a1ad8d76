package wal

import (
	"bytes"
	"slices"

	"wapentake/api"
	"wapentake/disk"
)

const (
	// numberBytes is how many bytes a number takes.
	numberBytes = 8
	// markBytes is how many bytes the numbers of a mark take, each of the two times.
	markBytes = 3 * numberBytes
)

// mark tells where the records of a log end.
type mark struct {
	number uint64 // of the marks of a log, the one with the greatest number counts
	epoch  uint64
	end    uint64
}

// place returns the block of a log where a mark is stored, which is never that of the mark before it.
func (m mark) place() int { return int(m.number % marks) }

// block returns what is stored of a mark: all of it twice, so that a torn write does not pass for a mark.
func (m mark) block() disk.Block {
	numbers := appendNumber(appendNumber(appendNumber(nil, m.number), m.epoch), m.end)
	var b disk.Block
	copy(b[:], slices.Repeat(numbers, 2))
	return b
}

// readMark returns the mark that is stored in a block, and whether it is valid at this place.
func readMark(b disk.Block, place int) (mark, bool) {
	m := mark{number(b[:]), number(b[numberBytes:]), number(b[2*numberBytes:])}
	whole := bytes.Equal(b[:markBytes], b[markBytes:2*markBytes])
	return m, whole && m.number > 0 && m.place() == place
}

// appendRecord appends what is stored of a record.
func appendRecord(b, record []byte) []byte {
	return append(appendNumber(b, uint64(len(record))), record...)
}

// splitRecords returns the records of which b is stored; ErrForm if they are not complete.
func splitRecords(b []byte) ([][]byte, api.Errno) {
	var records [][]byte
	for len(b) > 0 {
		if len(b) < numberBytes {
			return nil, api.ErrForm
		}
		length := number(b)
		b = b[numberBytes:]
		if length > uint64(len(b)) {
			return nil, api.ErrForm
		}
		records = append(records, bytes.Clone(b[:length]))
		b = b[length:]
	}
	return records, api.OK
}

func appendNumber(b []byte, n uint64) []byte {
	for shift := 8 * (numberBytes - 1); shift >= 0; shift -= 8 {
		b = append(b, byte(n>>shift))
	}
	return b
}

// number returns the number at the front of b.
func number(b []byte) uint64 {
	n := uint64(0)
	for _, x := range b[:numberBytes] {
		n = n<<8 | uint64(x)
	}
	return n
}
