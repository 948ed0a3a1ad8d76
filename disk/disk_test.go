package disk_test

import (
	"math"
	"testing"

	"wapentake/api"
	"wapentake/disk"
)

// full returns a block of one byte.
func full(b byte) disk.Block {
	var all disk.Block
	for i := range all {
		all[i] = b
	}
	return all
}

// mixed returns a block whose bytes differ from those next to them, and from those of another seed; none is zero.
func mixed(seed int) disk.Block {
	var b disk.Block
	for i := range b {
		b[i] = byte(1 + (i*7+seed*41)%255)
	}
	return b
}

// front returns the first bytes of one block, and behind them those of another.
func front(bytes int, b, behind disk.Block) disk.Block {
	copy(behind[:bytes], b[:bytes])
	return behind
}

func made(t *testing.T, blocks int) *disk.Disk {
	t.Helper()
	d := disk.New(blocks)
	if d == nil {
		t.Fatalf("New(%d): nil", blocks)
	}
	return d
}

// answers holds a call's error against the one it must answer.
func answers(t *testing.T, call string, errno, want api.Errno) {
	t.Helper()
	if errno != want {
		t.Fatalf("%s: %d, want %d", call, errno, want)
	}
}

// holds tells whether a block is read with this content.
func holds(t *testing.T, d *disk.Disk, n int, want disk.Block) {
	t.Helper()
	if b, errno := d.Read(n); b != want || errno != api.OK {
		t.Fatalf("Read(%d): %x, %d, want %x", n, b, errno, want)
	}
}

// refuses tells whether a block is not read, for this error.
func refuses(t *testing.T, d *disk.Disk, n int, want api.Errno) {
	t.Helper()
	if b, errno := d.Read(n); b != (disk.Block{}) || errno != want {
		t.Fatalf("Read(%d): %x, %d, want zero bytes, %d", n, b, errno, want)
	}
}

// writes writes a block, which must be OK.
func writes(t *testing.T, d *disk.Disk, n int, b disk.Block) {
	t.Helper()
	if errno := d.Write(n, b); errno != api.OK {
		t.Fatalf("Write(%d): %d", n, errno)
	}
}

func syncs(t *testing.T, d *disk.Disk) {
	t.Helper()
	answers(t, "Sync()", d.Sync(), api.OK)
}

// isDown tells whether the disk says so.
func isDown(t *testing.T, d *disk.Disk, want bool) {
	t.Helper()
	if d.Down() != want {
		t.Fatalf("Down(): %v", d.Down())
	}
}

func isLoose(t *testing.T, d *disk.Disk, want int) {
	t.Helper()
	if d.Loose() != want {
		t.Fatalf("Loose(): %d, want %d", d.Loose(), want)
	}
}

// The chapter's table of examples, on one disk.
func TestExamples(t *testing.T) {
	d := made(t, 4)
	b, c, zero := full(1), full(2), disk.Block{}

	writes(t, d, 1, b)
	holds(t, d, 1, b)
	isLoose(t, d, 1)
	answers(t, "Write(4, B)", d.Write(4, b), api.ErrRange)
	refuses(t, d, -1, api.ErrRange)

	syncs(t, d)
	writes(t, d, 1, c)
	writes(t, d, 2, c)
	d.Up(nil, -1)
	holds(t, d, 1, b)
	holds(t, d, 2, zero)

	writes(t, d, 1, c)
	writes(t, d, 2, c)
	d.Up([]bool{false, true}, 3)
	holds(t, d, 1, b)
	holds(t, d, 2, disk.Block{2, 2, 2})

	d.Room(2)
	answers(t, "Write(2, B)", d.Write(2, b), api.ErrFull)
	writes(t, d, 1, b)

	d.Arm(1)
	writes(t, d, 1, b)
	answers(t, "Sync()", d.Sync(), api.ErrDown)
	refuses(t, d, 1, api.ErrDown)
	isDown(t, d, true)
	d.Up([]bool{true}, -1)
	holds(t, d, 1, b)

	if disk.New(0) != nil || disk.New(4097) != nil {
		t.Fatal("New(0), New(4097): a disk")
	}
}

// P7.1: there are disks with 1 to MaxBlocks blocks. A new one is up, and its blocks are zero.
func TestNew(t *testing.T) {
	for _, blocks := range []int{1, 2, 3, 255, 256, 257, api.MaxBlocks - 1, api.MaxBlocks} {
		d := made(t, blocks)
		if d.Blocks() != blocks {
			t.Fatalf("New(%d).Blocks(): %d", blocks, d.Blocks())
		}
		isDown(t, d, false)
		isLoose(t, d, 0)
		for n := range blocks {
			holds(t, d, n, disk.Block{})
		}
	}
	for _, blocks := range []int{0, -1, -api.MaxBlocks, api.MaxBlocks + 1, 2 * api.MaxBlocks, math.MinInt, math.MaxInt} {
		if disk.New(blocks) != nil {
			t.Errorf("New(%d): a disk", blocks)
		}
	}
}

// P7.1: disks have nothing in common.
func TestDisksAreApart(t *testing.T) {
	a, b := made(t, 2), made(t, 2)
	writes(t, a, 0, full(1))
	a.Room(0)
	a.Arm(0)
	holds(t, b, 0, disk.Block{})
	isLoose(t, b, 0)
	syncs(t, b)
	writes(t, b, 0, full(2))
	holds(t, a, 0, full(1))
}

// P7.2, P7.3: a block is read as it was last written, synced or not, and no other one changes.
func TestWriteAndRead(t *testing.T) {
	d := made(t, 3)
	for i, n := range []int{0, 2, 0, 1, 0} {
		writes(t, d, n, mixed(i))
		holds(t, d, n, mixed(i))
		isLoose(t, d, i+1)
	}
	last := []int{4, 3, 1}
	for range 2 {
		for n, i := range last {
			holds(t, d, n, mixed(i))
		}
		syncs(t, d)
		isLoose(t, d, 0)
	}
	writes(t, d, 2, disk.Block{})
	holds(t, d, 2, disk.Block{})
	holds(t, d, 1, mixed(3))
	isLoose(t, d, 1)
}

// P7.2, P7.3: the first and the last block are there, those next to them are not.
func TestEndsOfTheDisk(t *testing.T) {
	for _, blocks := range []int{1, 2, 7, api.MaxBlocks} {
		d := made(t, blocks)
		for _, n := range []int{0, blocks - 1} {
			writes(t, d, n, mixed(n))
			holds(t, d, n, mixed(n))
		}
		loose := d.Loose()
		for _, n := range []int{-1, blocks, blocks + 1, -blocks, api.MaxBlocks, math.MinInt, math.MaxInt} {
			refuses(t, d, n, api.ErrRange)
			answers(t, "Write", d.Write(n, full(9)), api.ErrRange)
		}
		isLoose(t, d, loose)
		holds(t, d, 0, mixed(0))
		holds(t, d, blocks-1, mixed(blocks-1))
	}
}

// P7.3: all blocks of the greatest disk are apart from one another.
func TestAllBlocks(t *testing.T) {
	d := made(t, api.MaxBlocks)
	block := func(n int) disk.Block { return front(2, disk.Block{byte(n >> 8), byte(n)}, mixed(n)) }
	for n := range api.MaxBlocks {
		writes(t, d, n, block(n))
	}
	isLoose(t, d, api.MaxBlocks)
	syncs(t, d)
	d.Up(nil, -1)
	for n := range api.MaxBlocks {
		holds(t, d, n, block(n))
	}
}

// P7.4: what is synced survives, what is written after it need not.
func TestSync(t *testing.T) {
	d := made(t, 2)
	syncs(t, d)
	writes(t, d, 0, mixed(1))
	writes(t, d, 0, mixed(2))
	syncs(t, d)
	isLoose(t, d, 0)
	writes(t, d, 0, mixed(3))
	writes(t, d, 1, mixed(4))
	isLoose(t, d, 2)
	d.Up(nil, -1)
	holds(t, d, 0, mixed(2))
	holds(t, d, 1, disk.Block{})
	isLoose(t, d, 0)
}

// P7.5, P7.3: blocks from the capacity on cannot be written, and are read nonetheless.
func TestRoom(t *testing.T) {
	const blocks = 4
	for _, c := range []int{math.MinInt, -1, 0, 1, 2, 3, blocks, blocks + 1, math.MaxInt} {
		d := made(t, blocks)
		writes(t, d, 3, mixed(3))
		d.Room(c)
		for n := range blocks {
			want := api.OK
			if n >= c {
				want = api.ErrFull
			}
			answers(t, "Write", d.Write(n, mixed(10+n)), want)
		}
		for n := range blocks {
			switch {
			case n < c:
				holds(t, d, n, mixed(10+n))
			case n == 3:
				holds(t, d, n, mixed(3))
			default:
				holds(t, d, n, disk.Block{})
			}
		}
		isLoose(t, d, 1+min(max(c, 0), blocks))
		answers(t, "Write", d.Write(blocks, full(1)), api.ErrRange)
		answers(t, "Write", d.Write(-1, full(1)), api.ErrRange)
	}
}

// P7.5: the last Room counts, and neither Sync nor Up changes it; what was written before it was set can be synced, and survives.
func TestRoomStays(t *testing.T) {
	d := made(t, 3)
	writes(t, d, 2, mixed(1))
	d.Room(1)
	syncs(t, d)
	answers(t, "Write", d.Write(1, full(1)), api.ErrFull)
	d.Room(3)
	writes(t, d, 1, mixed(2))
	d.Room(0)
	d.Up([]bool{true}, -1)
	holds(t, d, 1, mixed(2))
	holds(t, d, 2, mixed(1))
	answers(t, "Write", d.Write(0, full(1)), api.ErrFull)
	d.Room(-5)
	answers(t, "Write", d.Write(0, full(1)), api.ErrFull)
	d.Room(1)
	writes(t, d, 0, full(1))
}

// P7.5: the capacity can be set while the disk is down.
func TestRoomWhileDown(t *testing.T) {
	d := made(t, 3)
	d.Arm(0)
	answers(t, "Sync()", d.Sync(), api.ErrDown)
	d.Room(1)
	isDown(t, d, true)
	d.Up(nil, -1)
	answers(t, "Write", d.Write(1, full(1)), api.ErrFull)
	writes(t, d, 0, full(1))
}

// R2: of the errors that apply the first one is returned.
func TestFirstError(t *testing.T) {
	d := made(t, 2)
	d.Room(1)
	answers(t, "a write beyond the disk and the capacity", d.Write(2, full(1)), api.ErrRange)
	d.Room(0)
	answers(t, "a write before the disk, without room", d.Write(-1, full(1)), api.ErrRange)
	for _, n := range []int{-1, 0, 1, 2} {
		going := d.Copy()
		going.Arm(0)
		answers(t, "a write by which the disk goes down", going.Write(n, full(1)), api.ErrDown)
		answers(t, "a write while it is down", going.Write(n, full(1)), api.ErrDown)
		refuses(t, going, n, api.ErrDown)
	}
}
