package disk_test

import (
	"testing"

	"wapentake/api"
	"wapentake/disk"
)

// loaded returns a disk with a synced block, an unsynced write, no room for the last block, and a fuse of 2.
func loaded(t *testing.T) *disk.Disk {
	d := made(t, 3)
	writes(t, d, 0, mixed(1))
	syncs(t, d)
	writes(t, d, 0, mixed(2))
	d.Room(2)
	d.Arm(2)
	return d
}

// goesOn drives a loaded disk through all that its state decides.
func goesOn(t *testing.T, d *disk.Disk, other disk.Block) {
	t.Helper()
	holds(t, d, 0, mixed(2))
	isLoose(t, d, 1)
	isDown(t, d, false)
	answers(t, "Write(2)", d.Write(2, other), api.ErrFull)
	writes(t, d, 1, other)
	isLoose(t, d, 2)
	answers(t, "Sync()", d.Sync(), api.ErrDown)
	isDown(t, d, true)
	d.Up([]bool{false, true}, 7)
	holds(t, d, 0, mixed(1))
	holds(t, d, 1, front(7, other, disk.Block{}))
	isLoose(t, d, 0)
	answers(t, "Write(2)", d.Write(2, other), api.ErrFull)
	syncs(t, d)
}

// P7.7: a copy goes on as the disk would have, and each of them whatever is done with the other.
func TestCopy(t *testing.T) {
	for _, first := range []int{0, 1, 2} {
		d := loaded(t)
		c := d.Copy()
		disks := []*disk.Disk{d, c, c.Copy()}
		disks[0], disks[first] = disks[first], disks[0]
		for i, d := range disks {
			if d.Blocks() != 3 {
				t.Fatalf("Blocks(): %d", d.Blocks())
			}
			goesOn(t, d, mixed(10+i))
		}
	}
}

// P7.7: a write is unsynced in one of two disks alone, as is what Sync, Up, Room and Arm do.
func TestCopyIsApart(t *testing.T) {
	calls := []struct {
		name string
		call func(d *disk.Disk)
	}{
		{"Write(0)", func(d *disk.Disk) { d.Write(0, mixed(5)) }},
		{"Write(1)", func(d *disk.Disk) { d.Write(1, mixed(5)) }},
		{"Sync", func(d *disk.Disk) { d.Sync() }},
		{"Room", func(d *disk.Disk) { d.Room(0) }},
		{"Arm", func(d *disk.Disk) { d.Arm(0) }},
		{"Up(nil, -1)", func(d *disk.Disk) { d.Up(nil, -1) }},
		{"Up({true}, 9)", func(d *disk.Disk) { d.Up([]bool{true}, 9) }},
		{"going down", func(d *disk.Disk) { d.Arm(0); d.Sync() }},
	}
	for _, c := range calls {
		for _, copied := range []bool{false, true} {
			t.Run(c.name, func(t *testing.T) {
				one := loaded(t)
				other := one.Copy()
				if copied {
					one, other = other, one
				}
				c.call(one)
				goesOn(t, other, mixed(6))
			})
		}
	}
}

// P7.7: both disks write on behind the unsynced writes that they had in common.
func TestCopyWritesOn(t *testing.T) {
	for common := range 9 {
		d := made(t, 20)
		for n := range common {
			writes(t, d, n, mixed(n))
		}
		c := d.Copy()
		for i := range 4 {
			writes(t, d, common+i, mixed(50))
			writes(t, c, common+i, mixed(60))
		}
		for i, one := range []*disk.Disk{d, c} {
			isLoose(t, one, common+4)
			one.Up(all(common+4), -1)
			for n := range common {
				holds(t, one, n, mixed(n))
			}
			for n := common; n < common+4; n++ {
				holds(t, one, n, mixed(50+10*i))
			}
		}
	}
}

// P7.7: a copy of a disk that is down is down, and comes up alone.
func TestCopyWhileDown(t *testing.T) {
	d := made(t, 1)
	writes(t, d, 0, mixed(1))
	d.Arm(0)
	answers(t, "Sync()", d.Sync(), api.ErrDown)
	c := d.Copy()
	isDown(t, c, true)
	isLoose(t, c, 1)
	c.Up([]bool{true}, -1)
	holds(t, c, 0, mixed(1))
	isDown(t, d, true)
	refuses(t, d, 0, api.ErrDown)
	d.Up(nil, -1)
	holds(t, d, 0, disk.Block{})
}
