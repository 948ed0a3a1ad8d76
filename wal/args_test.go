package wal_test

import (
	"math"
	"testing"

	"wapentake/api"
	"wapentake/disk"
	"wapentake/wal"
)

// P8.1, P8.2: a log is on three blocks or more that the disk has, from the first to the last of them.
func TestBlocksOfALog(t *testing.T) {
	for _, blocks := range []int{1, 2, 3, 4, 6} {
		for first := -2; first <= blocks+1; first++ {
			for size := -1; size <= blocks+2; size++ {
				d := made(t, blocks)
				if first < 0 || size < 3 || first+size > blocks {
					wrong(t, d, first, size)
					continue
				}
				answers(t, "Format", wal.Format(d, first, size), api.OK)
				l := opens(t, d, first, size)
				all := text(1, (size-2)*api.BlockSize-8)
				is(t, l, len(all), 1)
				adds(t, l, all)
				opens(t, d, first, size, all)
				for n := range blocks {
					if b, _ := d.Read(n); (n < first || n >= first+size) && b != mixed(n) {
						t.Fatalf("a log on %d blocks from %d on wrote block %d", size, first, n)
					}
				}
			}
		}
	}
}

// wrong tells whether there can be no log on these blocks, and nothing of the disk changes.
func wrong(t *testing.T, d *disk.Disk, first, size int) {
	t.Helper()
	before := d.Copy()
	answers(t, "Format", wal.Format(d, first, size), api.ErrArg)
	refuses(t, d, first, size, api.ErrArg)
	same(t, d, before)
	d.Arm(0) // no operation either
	answers(t, "Format", wal.Format(d, first, size), api.ErrArg)
	if d.Down() {
		t.Fatalf("Format(%d, %d) is an operation", first, size)
	}
}

// P8.1, P8.2, R1: numbers at the ends of what an int holds.
func TestFarBlocks(t *testing.T) {
	numbers := []int{math.MinInt, math.MinInt + 1, math.MinInt + 3, math.MinInt32, -1, 0, 1, 3, 8, math.MaxInt32, math.MaxInt - 3, math.MaxInt - 2, math.MaxInt}
	d := made(t, 8)
	for _, first := range numbers {
		for _, size := range numbers {
			has := first >= 0 && first <= 5 && size == 3 || first == 0 && size == 8
			if !has {
				wrong(t, d, first, size)
				d.Arm(-1)
			}
		}
	}
}

// P8.1, P8.3: the greatest log there is.
func TestGreatestLog(t *testing.T) {
	d := disk.New(api.MaxBlocks)
	answers(t, "Format", wal.Format(d, 0, api.MaxBlocks), api.OK)
	l := opens(t, d, 0, api.MaxBlocks)
	is(t, l, (api.MaxBlocks-2)*api.BlockSize-8, 1)
	most := text(1, (api.MaxBlocks-2)*api.BlockSize-8)
	adds(t, l, most)
	is(t, l, 0, 1)
	answers(t, "Append", l.Append(nil), api.ErrFull)
	opens(t, d, 0, api.MaxBlocks, most)
	refuses(t, d, 0, api.MaxBlocks+1, api.ErrArg)
	refuses(t, d, 1, api.MaxBlocks, api.ErrArg)
}

// R2: blocks that the disk does not have come before an error of the disk, and that before bytes that are no log.
func TestFirstError(t *testing.T) {
	down := func(d *disk.Disk) *disk.Disk {
		d.Arm(0)
		answers(t, "the disk's Sync", d.Sync(), api.ErrDown)
		return d
	}
	full := made(t, 5)
	full.Room(0)
	for _, d := range []*disk.Disk{down(made(t, 5)), down(formatted(t, 5, 1, 4)), full} {
		for _, blocks := range [][2]int{{-1, 4}, {1, 2}, {1, 5}, {5, 3}} {
			answers(t, "Format", wal.Format(d, blocks[0], blocks[1]), api.ErrArg)
			refuses(t, d, blocks[0], blocks[1], api.ErrArg)
		}
	}
	answers(t, "Format of a full disk", wal.Format(full, 1, 4), api.ErrFull)
	refuses(t, full, 1, 4, api.ErrForm)
	for _, d := range []*disk.Disk{down(made(t, 5)), down(formatted(t, 5, 1, 4))} {
		answers(t, "Format of a disk that is down", wal.Format(d, 1, 4), api.ErrDown)
		refuses(t, d, 1, 4, api.ErrDown)
	}
	d := made(t, 5)
	d.Room(0)
	d.Arm(0)
	answers(t, "Format of a full disk that goes down", wal.Format(d, 1, 4), api.ErrDown)
}
