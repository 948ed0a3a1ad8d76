package disk_test

import (
	"math"
	"testing"

	"wapentake/api"
	"wapentake/disk"
)

// P7.5, P7.3, P7.4: so many operations are performed; at the next one, a Write or a Sync, the disk goes down, and it is not
// performed.
func TestFuse(t *testing.T) {
	for _, operations := range []int{0, 1, 2, 3, 10} {
		for _, atSync := range []bool{false, true} {
			d := made(t, 2)
			writes(t, d, 1, mixed(9))
			d.Arm(operations)
			for i := range operations {
				writes(t, d, 0, mixed(i))
				isDown(t, d, false)
			}
			isLoose(t, d, 1+operations)
			fails(t, d, atSync)
			isDown(t, d, true)
			isLoose(t, d, 1+operations)
			d.Up(all(1+operations), -1)
			holds(t, d, 1, mixed(9))
			if operations > 0 {
				holds(t, d, 0, mixed(operations-1))
			}
		}
	}
}

// fails calls a Sync or a Write, which must answer that the disk is down.
func fails(t *testing.T, d *disk.Disk, atSync bool) {
	t.Helper()
	if atSync {
		answers(t, "Sync()", d.Sync(), api.ErrDown)
	} else {
		answers(t, "Write(1)", d.Write(1, full(99)), api.ErrDown)
	}
}

// all returns a list that keeps so many writes.
func all(writes int) []bool {
	keep := make([]bool, writes)
	for i := range keep {
		keep[i] = true
	}
	return keep
}

// P7.4: a Sync by which the disk goes down makes nothing durable.
func TestFuseAtSync(t *testing.T) {
	d := made(t, 1)
	writes(t, d, 0, full(1))
	d.Arm(0)
	answers(t, "Sync()", d.Sync(), api.ErrDown)
	d.Up(nil, -1)
	holds(t, d, 0, disk.Block{})
}

// An operation counts whatever its result: one that there is no block for, and one that there is no room for.
func TestErrorsBurnTheFuse(t *testing.T) {
	d := made(t, 2)
	d.Room(1)
	d.Arm(4)
	answers(t, "Write(-1)", d.Write(-1, full(1)), api.ErrRange)
	answers(t, "Write(2)", d.Write(2, full(1)), api.ErrRange)
	answers(t, "Write(1)", d.Write(1, full(1)), api.ErrFull)
	syncs(t, d)
	isDown(t, d, false)
	answers(t, "Write(1)", d.Write(1, full(1)), api.ErrDown)
	isDown(t, d, true)
}

// Only a Write and a Sync are operations.
func TestOtherCallsAreNoOperations(t *testing.T) {
	d := made(t, 2)
	writes(t, d, 0, full(1))
	d.Arm(1)
	for range 3 {
		holds(t, d, 0, full(1))
		refuses(t, d, 2, api.ErrRange)
		d.Blocks()
		d.Loose()
		d.Room(2)
		isDown(t, d, false)
		d.Copy()
	}
	syncs(t, d)
	holds(t, d, 0, full(1))
	answers(t, "Sync()", d.Sync(), api.ErrDown)
}

// P7.5: a negative number removes the fuse, and another one replaces it.
func TestArmAgain(t *testing.T) {
	for _, negative := range []int{-1, -2, math.MinInt} {
		d := made(t, 1)
		d.Arm(0)
		d.Arm(negative)
		for range 5 {
			syncs(t, d)
		}
		d.Arm(negative)
		syncs(t, d)
	}
	d := made(t, 1)
	d.Arm(5)
	syncs(t, d)
	d.Arm(1)
	syncs(t, d)
	answers(t, "Sync()", d.Sync(), api.ErrDown)
	d = made(t, 1)
	d.Arm(0)
	d.Arm(2)
	syncs(t, d)
	syncs(t, d)
	answers(t, "Sync()", d.Sync(), api.ErrDown)
	d = made(t, 1)
	d.Arm(math.MaxInt)
	syncs(t, d)
	writes(t, d, 0, full(1))
}

// P7.2 to P7.5: while the disk is down nothing is read, written or synced, and nothing else brings it up.
func TestDown(t *testing.T) {
	d := made(t, 2)
	writes(t, d, 0, full(1))
	d.Arm(0)
	answers(t, "Sync()", d.Sync(), api.ErrDown)
	d.Arm(3)
	d.Room(2)
	for range 5 {
		for n := -1; n <= 2; n++ {
			refuses(t, d, n, api.ErrDown)
			answers(t, "Write", d.Write(n, full(2)), api.ErrDown)
		}
		answers(t, "Sync()", d.Sync(), api.ErrDown)
		isDown(t, d, true)
		isLoose(t, d, 1)
		if d.Blocks() != 2 {
			t.Fatalf("Blocks(): %d", d.Blocks())
		}
	}
	d.Up(nil, -1)
	holds(t, d, 0, disk.Block{})
	holds(t, d, 1, disk.Block{})
}

// The fuse is removed when the disk goes down, and by Up, whether it was set before or since.
func TestNoFuseAfterUp(t *testing.T) {
	for _, since := range []int{-1, 0, 1} {
		d := made(t, 1)
		d.Arm(0)
		answers(t, "Sync()", d.Sync(), api.ErrDown)
		d.Arm(since)
		d.Up(nil, -1)
		for range 4 {
			syncs(t, d)
		}
	}
	d := made(t, 1)
	d.Arm(1)
	d.Up(nil, -1)
	for range 4 {
		syncs(t, d)
	}
}
