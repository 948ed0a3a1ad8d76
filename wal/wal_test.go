package wal_test

import (
	"encoding/binary"
	"strings"
	"testing"

	"wapentake/api"
	"wapentake/disk"
	"wapentake/wal"
)

// mixed returns a block whose bytes differ from those next to them, and from those of another seed; none is zero.
func mixed(seed int) disk.Block {
	var b disk.Block
	for i := range b {
		b[i] = byte(1 + (i*7+seed*41)%255)
	}
	return b
}

// made returns a disk whose blocks hold something already, which is no log.
func made(t *testing.T, blocks int) *disk.Disk {
	t.Helper()
	d := disk.New(blocks)
	for n := range blocks {
		writes(t, d, n, mixed(n))
	}
	return d
}

// writes writes a block, and syncs it.
func writes(t *testing.T, d *disk.Disk, n int, b disk.Block) {
	t.Helper()
	answers(t, "the disk's Write", d.Write(n, b), api.OK)
	answers(t, "the disk's Sync", d.Sync(), api.OK)
}

// formatted returns a disk with an empty log.
func formatted(t *testing.T, blocks, first, size int) *disk.Disk {
	t.Helper()
	d := made(t, blocks)
	answers(t, "Format", wal.Format(d, first, size), api.OK)
	return d
}

// answers holds a call's error against the one that it must answer.
func answers(t *testing.T, call string, errno, want api.Errno) {
	t.Helper()
	if errno != want {
		t.Fatalf("%s: %d, want %d", call, errno, want)
	}
}

// isRecords holds records against those that they must be.
func isRecords(t *testing.T, records [][]byte, want []string) {
	t.Helper()
	if len(records) != len(want) {
		t.Fatalf("%d records, want %d: %.20q", len(records), len(want), records)
	}
	for i, r := range records {
		if string(r) != want[i] {
			t.Fatalf("record %d: %d bytes %.20q, want %d bytes %.20q", i, len(r), r, len(want[i]), want[i])
		}
	}
}

// opens opens a log, which must have these records.
func opens(t *testing.T, d *disk.Disk, first, size int, want ...string) *wal.Log {
	t.Helper()
	l, records, errno := wal.Open(d, first, size)
	if l == nil || errno != api.OK {
		t.Fatalf("Open(%d, %d): %v, %d", first, size, l, errno)
	}
	isRecords(t, records, want)
	return l
}

// refuses tells whether Open answers this error, and nothing else.
func refuses(t *testing.T, d *disk.Disk, first, size int, want api.Errno) {
	t.Helper()
	if l, records, errno := wal.Open(d, first, size); l != nil || len(records) != 0 || errno != want {
		t.Fatalf("Open(%d, %d): %v, %d records, %d, want %d", first, size, l, len(records), errno, want)
	}
}

// appends appends records, for which there must be room.
func appends(t *testing.T, l *wal.Log, records ...string) {
	t.Helper()
	for _, r := range records {
		answers(t, "Append", l.Append([]byte(r)), api.OK)
	}
}

// adds appends records, and syncs them.
func adds(t *testing.T, l *wal.Log, records ...string) {
	t.Helper()
	appends(t, l, records...)
	answers(t, "Sync", l.Sync(), api.OK)
}

// is holds what a log tells of itself against what it must be.
func is(t *testing.T, l *wal.Log, left int, epoch uint64) {
	t.Helper()
	if l.Left() != left || l.Epoch() != epoch {
		t.Fatalf("Left(), Epoch(): %d, %d, want %d, %d", l.Left(), l.Epoch(), left, epoch)
	}
}

// same tells whether two disks are in one state, as far as it can be read.
func same(t *testing.T, d, want *disk.Disk) {
	t.Helper()
	if d.Blocks() != want.Blocks() || d.Down() != want.Down() || d.Loose() != want.Loose() {
		t.Fatalf("%d blocks, down %v, %d loose, want %d, %v, %d",
			d.Blocks(), d.Down(), d.Loose(), want.Blocks(), want.Down(), want.Loose())
	}
	for n := range want.Blocks() {
		b, errno := d.Read(n)
		if c, wanted := want.Read(n); b != c || errno != wanted {
			t.Fatalf("Read(%d): %x, %d, want %x, %d", n, b, errno, c, wanted)
		}
	}
}

// text returns so many bytes, which differ from those of another seed.
func text(seed, length int) string {
	b := []byte{}
	for len(b) < length {
		seed++
		block := mixed(seed)
		b = append(b, block[:]...)
	}
	return string(b[:length])
}

// stored returns the bytes of an area with these records.
func stored(records ...string) string {
	var b []byte
	for _, r := range records {
		b = binary.BigEndian.AppendUint64(b, uint64(len(r)))
		b = append(b, r...)
	}
	return string(b)
}

// blockOf returns the block with the number n of bytes that are followed by zero bytes.
func blockOf(bytes string, n int) disk.Block {
	var b disk.Block
	copy(b[:], bytes[min(n*api.BlockSize, len(bytes)):])
	return b
}

// markOf returns the block of a mark.
func markOf(number, epoch, end uint64) disk.Block {
	var b []byte
	for _, n := range []uint64{number, epoch, end, number, epoch, end} {
		b = binary.BigEndian.AppendUint64(b, n)
	}
	return blockOf(string(b), 0)
}

// The chapter's table of examples.
func TestExamples(t *testing.T) {
	d := disk.New(8)
	answers(t, "Format(d, 1, 5)", wal.Format(d, 1, 5), api.OK)
	l := opens(t, d, 1, 5)
	is(t, l, 760, 1)

	appends(t, l, "ab", "")
	is(t, l, 742, 1)
	answers(t, "Sync", l.Sync(), api.OK)
	l = opens(t, d, 1, 5, "ab", "")

	fresh := formatted(t, 8, 1, 5)
	answers(t, "Append of 761 bytes", opens(t, fresh, 1, 5).Append(make([]byte, 761)), api.ErrFull)

	answers(t, "Append", l.Append([]byte("x")), api.OK)
	d.Room(2)
	answers(t, "Sync", l.Sync(), api.ErrFull)
	d.Room(8)
	l = opens(t, d, 1, 5, "ab", "")

	answers(t, "Restart", l.Restart(), api.OK)
	is(t, l, 760, 2)
	opens(t, d, 1, 5)

	refuses(t, d, 0, 2, api.ErrArg)
	refuses(t, d, 4, 5, api.ErrArg)
	refuses(t, disk.New(8), 1, 5, api.ErrForm)
}

// P8.2 to P8.5: records stay through Syncs, and when the log is opened again, and a Restart removes them.
func TestRecordsStay(t *testing.T) {
	d := formatted(t, 7, 1, 5)
	l := opens(t, d, 1, 5)
	adds(t, l, "one")
	opens(t, d, 1, 5, "one")
	adds(t, l, "two", "", "three")
	is(t, l, 768-4*8-11-8, 1)
	l = opens(t, d, 1, 5, "one", "two", "", "three")
	adds(t, l, strings.Repeat("4", 300))
	opens(t, d, 1, 5, "one", "two", "", "three", strings.Repeat("4", 300))
	is(t, l, 768-5*8-311-8, 1)

	answers(t, "Restart", l.Restart(), api.OK)
	is(t, l, 760, 2)
	l = opens(t, d, 1, 5)
	is(t, l, 760, 2)
	adds(t, l, "five")
	is(t, l, 760-12, 2)
	answers(t, "Restart", l.Restart(), api.OK)
	answers(t, "Restart", l.Restart(), api.OK)
	is(t, l, 760, 4)
	adds(t, l, "six")
	adds(t, l, "seven")
	l = opens(t, d, 1, 5, "six", "seven")
	is(t, l, 760-8-3-8-5, 4)
}

// P8.1, P8.2: a log on blocks that another one used, the same blocks or others, is empty, and has the epoch 1.
func TestFormatOverALog(t *testing.T) {
	for _, other := range [][2]int{{1, 5}, {0, 5}, {2, 5}, {0, 8}, {3, 4}, {1, 3}} {
		for syncs := range 4 {
			d := formatted(t, 8, other[0], other[1])
			l := opens(t, d, other[0], other[1])
			for i := range syncs {
				adds(t, l, text(i, 50))
				answers(t, "Restart", l.Restart(), api.OK)
				adds(t, l, text(i, 50))
			}
			answers(t, "Format", wal.Format(d, 1, 5), api.OK)
			l = opens(t, d, 1, 5)
			is(t, l, 760, 1)
			adds(t, l, "new")
			opens(t, d, 1, 5, "new")
		}
	}
}

// P8.3, P8.4: dropped records are nowhere, and those that were appended behind them are there.
func TestDrop(t *testing.T) {
	d := formatted(t, 7, 1, 5)
	l := opens(t, d, 1, 5)
	l.Drop()
	is(t, l, 760, 1)
	appends(t, l, "a", text(1, 600))
	is(t, l, 760-9-608, 1)
	l.Drop()
	is(t, l, 760, 1)
	before := d.Copy()
	answers(t, "Sync", l.Sync(), api.OK)
	same(t, d, before)
	adds(t, l, "b", "c")
	l.Drop() // these are pending no more
	answers(t, "Sync", l.Sync(), api.OK)
	is(t, l, 760-18, 1)
	appends(t, l, "d")
	l.Drop()
	adds(t, l, "e")
	opens(t, d, 1, 5, "b", "c", "e")
}

// Two logs beside one another on a disk, each of which keeps to its own blocks.
func TestTwoLogs(t *testing.T) {
	d := formatted(t, 10, 1, 4)
	answers(t, "Format", wal.Format(d, 5, 4), api.OK)
	a, b := opens(t, d, 1, 4), opens(t, d, 5, 4)
	adds(t, a, text(1, 504))
	adds(t, b, text(2, 504))
	opens(t, d, 1, 4, text(1, 504))
	answers(t, "Restart", b.Restart(), api.OK)
	opens(t, d, 1, 4, text(1, 504))
	answers(t, "Restart", a.Restart(), api.OK)
	adds(t, b, "b")
	opens(t, d, 1, 4)
	opens(t, d, 5, 4, "b")
	for _, n := range []int{0, 9} {
		if block, _ := d.Read(n); block != mixed(n) {
			t.Fatalf("block %d, which is none of either log, was written", n)
		}
	}
}

// P8.2, P8.3, P8.5: these calls, and a Sync of nothing, are no operations of the disk, and write nothing.
func TestNothingIsWritten(t *testing.T) {
	d := formatted(t, 6, 1, 5)
	adds(t, opens(t, d, 1, 5), "old")
	d.Arm(0)
	before := d.Copy()
	l := opens(t, d, 1, 5, "old")
	appends(t, l, "new", text(1, 400))
	answers(t, "Append", l.Append(make([]byte, 1000)), api.ErrFull)
	answers(t, "Restart", l.Restart(), api.ErrBusy)
	is(t, l, 760-11-11-408, 1)
	same(t, d, before)
	l.Drop()
	answers(t, "Sync", l.Sync(), api.OK)
	refuses(t, d, 1, 6, api.ErrArg)
	answers(t, "Format", wal.Format(d, 1, 6), api.ErrArg)
	same(t, d, before)
	appends(t, l, "new")
	answers(t, "Sync", l.Sync(), api.ErrDown) // the fuse is as it was
}
