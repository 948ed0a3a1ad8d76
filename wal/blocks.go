package wal

import (
	"slices"

	"wapentake/api"
	"wapentake/disk"
)

const (
	// marks is how many blocks at the front of a log hold a mark; those behind them are the area.
	marks = 2
	// minSize is how many blocks a log has at the least: an area without blocks could hold nothing.
	minSize = marks + 1
)

// blocks are those of a log, which counts them from its first one on.
type blocks struct {
	disk        *disk.Disk
	first, size int
}

// exist reports whether the disk has them all, and a log can be on them.
func (s blocks) exist() bool {
	// The sum of first and size could be beyond the greatest number.
	return s.first >= 0 && s.size >= minSize && s.size <= s.disk.Blocks()-s.first
}

// room returns the number of bytes of the area.
func (s blocks) room() int { return (s.size - marks) * api.BlockSize }

func (s blocks) read(n int) (disk.Block, api.Errno) { return s.disk.Read(s.first + n) }

func (s blocks) write(n int, b disk.Block) api.Errno { return s.disk.Write(s.first+n, b) }

// currentMark returns the valid mark with the greatest number; ErrForm if none is valid.
func (s blocks) currentMark() (mark, api.Errno) {
	var current mark // with the number 0, which no valid mark has
	for place := range marks {
		b, errno := s.read(place)
		if errno != api.OK {
			return mark{}, errno
		}
		if m, valid := readMark(b, place); valid && m.number > current.number {
			current = m
		}
	}
	if current.number == 0 {
		return mark{}, api.ErrForm
	}
	return current, api.OK
}

// storeMark makes a mark durable.
func (s blocks) storeMark(m mark) api.Errno {
	if errno := s.write(m.place(), m.block()); errno != api.OK {
		return errno
	}
	return s.disk.Sync()
}

// records returns the records in the area before an end; ErrForm if there are none that end there.
func (s blocks) records(end uint64) ([][]byte, api.Errno) {
	if end > uint64(s.room()) {
		return nil, api.ErrForm
	}
	stored, errno := s.load(int(end))
	if errno != api.OK {
		return nil, errno
	}
	return splitRecords(stored)
}

// load returns the bytes of the area before an end.
func (s blocks) load(end int) ([]byte, api.Errno) {
	var area []byte
	for n := marks; len(area) < end; n++ {
		b, errno := s.read(n)
		if errno != api.OK {
			return nil, errno
		}
		area = append(area, b[:]...)
	}
	return area[:end], api.OK
}

// store makes bytes durable behind those of the area that end here. The last block is written first: if the disk has no
// room for all blocks, then it has none for that one, and nothing is written.
func (s blocks) store(end int, added []byte) api.Errno {
	first := marks + end/api.BlockSize
	shared, errno := s.read(first)
	if errno != api.OK {
		return errno
	}
	all := slices.Concat(shared[:end%api.BlockSize], added)
	for n := (len(all) - 1) / api.BlockSize; n >= 0; n-- {
		var b disk.Block
		copy(b[:], all[n*api.BlockSize:])
		if errno := s.write(first+n, b); errno != api.OK {
			return errno
		}
	}
	return s.disk.Sync()
}
