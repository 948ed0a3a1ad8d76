package disk_test

import (
	"slices"
	"testing"

	"wapentake/disk"
)

// R3: what the caller does with a block, after it was written or read, changes nothing.
func TestBlocksAreValues(t *testing.T) {
	d := made(t, 2)
	b := mixed(1)
	writes(t, d, 0, b)
	clear(b[:])
	holds(t, d, 0, mixed(1))
	got, _ := d.Read(0)
	clear(got[:])
	holds(t, d, 0, mixed(1))
	syncs(t, d)
	got, _ = d.Read(0)
	clear(got[:])
	holds(t, d, 0, mixed(1))
	b = mixed(2)
	writes(t, d, 1, b)
	clear(b[:])
	d.Up([]bool{true}, 9)
	holds(t, d, 1, front(9, mixed(2), disk.Block{}))
	holds(t, d, 0, mixed(1))
}

// R3: the list of what is kept is not changed, nor what stands behind it, which is no part of it.
func TestUpLeavesItsList(t *testing.T) {
	for length := range 5 {
		room := []bool{true, false, true, true, true, true}
		want := slices.Clone(room)
		d := made(t, 5)
		for n := range 5 {
			writes(t, d, n, mixed(n))
		}
		d.Up(room[:length], 3)
		if !slices.Equal(room, want) {
			t.Fatalf("a list of %d: %v", length, room)
		}
		for n := length; n < 5; n++ {
			holds(t, d, n, disk.Block{})
		}
	}
}

// R3: the list of what is kept can be changed afterwards.
func TestUpKeepsNoList(t *testing.T) {
	d := made(t, 2)
	keep := []bool{true, false}
	writes(t, d, 0, mixed(1))
	writes(t, d, 1, mixed(2))
	d.Up(keep, -1)
	keep[0], keep[1] = false, true
	holds(t, d, 0, mixed(1))
	holds(t, d, 1, disk.Block{})
	writes(t, d, 0, mixed(3))
	writes(t, d, 1, mixed(4))
	d.Up(nil, -1)
	holds(t, d, 0, mixed(1))
	holds(t, d, 1, disk.Block{})
}
