package wal_test

import (
	"testing"

	"wapentake/api"
	"wapentake/disk"
	"wapentake/wal"
)

// operations returns how many operations a call makes of a disk that does not go down.
func operations(d *disk.Disk, call func(d *disk.Disk) api.Errno) int {
	for n := 0; ; n++ {
		c := d.Copy()
		c.Arm(n)
		call(c)
		if !c.Down() {
			return n
		}
	}
}

// P8.1: Format answers the first error of the disk, and does nothing more.
func TestFormatWithoutRoom(t *testing.T) {
	for first := range 3 {
		for c := range 9 {
			d := made(t, 8)
			d.Room(c)
			before := d.Copy()
			format := func(d *disk.Disk) api.Errno { return wal.Format(d, first, 5) }
			if c <= first+1 {
				answers(t, "Format", format(d), api.ErrFull)
				same(t, d, before)
				if n := operations(before, format); n != 1 {
					t.Fatalf("%d operations", n)
				}
				continue
			}
			answers(t, "Format", format(d), api.OK)
			opens(t, d, first, 5)
		}
	}
}

// P8.4, P8.6: a Sync for which the disk has no room has written nothing, and discards the pending records; what is appended
// later can be synced as soon as there is room.
func TestSyncWithoutRoom(t *testing.T) {
	for _, c := range []struct {
		old, new string
		last     int // the last block that is written
	}{
		{"a", "b", 3}, {"a", text(1, 238), 3}, {"a", text(1, 239), 3}, {"a", text(1, 240), 4},
		{text(2, 247), "", 4}, {text(2, 248), "", 4}, {text(2, 240), "", 3}, {text(2, 241), "", 4},
		{"a", text(1, 495), 4}, {"a", text(1, 496), 5}, {text(2, 300), text(3, 452), 5},
	} {
		for room := range 9 {
			d := formatted(t, 7, 1, 5)
			l := opens(t, d, 1, 5)
			adds(t, l, c.old)
			left := l.Left()
			d.Room(room)
			before := d.Copy()
			call := func(d *disk.Disk) api.Errno {
				l := opens(t, d, 1, 5, c.old)
				appends(t, l, c.new)
				return l.Sync()
			}
			appends(t, l, c.new)
			if room > c.last {
				answers(t, "Sync", l.Sync(), api.OK)
				opens(t, d, 1, 5, c.old, c.new)
				continue
			}
			answers(t, "Sync", l.Sync(), api.ErrFull)
			same(t, d, before)
			if n := operations(before, call); n != 1 {
				t.Fatalf("%d operations", n)
			}
			is(t, l, left, 1)
			answers(t, "Sync of nothing", l.Sync(), api.OK)
			opens(t, d, 1, 5, c.old)
			d.Up(nil, -1)
			opens(t, d, 1, 5, c.old)

			d.Room(7)
			l = opens(t, d, 1, 5, c.old)
			is(t, l, left, 1)
		}
	}
}

// P8.4: a log goes on after a Sync for which there was no room.
func TestAfterFull(t *testing.T) {
	d := formatted(t, 7, 1, 5)
	l := opens(t, d, 1, 5)
	adds(t, l, "a")
	for range 3 {
		d.Room(4)
		appends(t, l, "lost", text(1, 300))
		answers(t, "Sync", l.Sync(), api.ErrFull)
		is(t, l, 760-9, 1)
		answers(t, "Sync of nothing", l.Sync(), api.OK)
		is(t, l, 760-9, 1)
	}
	adds(t, l, "b") // in the block for which there is room
	opens(t, d, 1, 5, "a", "b")
	d.Room(7)
	adds(t, l, text(2, 300))
	l = opens(t, d, 1, 5, "a", "b", text(2, 300))
	d.Room(3)
	appends(t, l, "lost")
	answers(t, "Restart", l.Restart(), api.ErrBusy)
	answers(t, "Sync", l.Sync(), api.ErrFull)
	answers(t, "Restart", l.Restart(), api.OK)
	is(t, l, 760, 2)
	opens(t, d, 1, 5)
}

// synced returns a disk and the log on its blocks 1 to 5, after so many Syncs of the record "a".
func synced(t *testing.T, syncs int) (*disk.Disk, *wal.Log) {
	t.Helper()
	d := formatted(t, 7, 1, 5)
	l := opens(t, d, 1, 5)
	for range syncs {
		adds(t, l, "a")
	}
	return d, l
}

// P8.5: a Restart for whose mark the disk has no room changes nothing.
func TestRestartWithoutRoom(t *testing.T) {
	for syncs := range 2 {
		for room := range 9 {
			d, l := synced(t, syncs)
			want := []string{"a"}[:syncs]
			left := l.Left()
			d.Room(room)
			before := d.Copy()
			if room > 1+syncs { // the mark after the number 1 is in the first block, and that after 2 in the second
				answers(t, "Restart", l.Restart(), api.OK)
				is(t, l, 760, 2)
				opens(t, d, 1, 5)
				continue
			}
			answers(t, "Restart", l.Restart(), api.ErrFull)
			same(t, d, before)
			is(t, l, left, 1)
			is(t, opens(t, d, 1, 5, want...), left, 1)
			restart := func(d *disk.Disk) api.Errno { return opens(t, d, 1, 5, want...).Restart() }
			if n := operations(before, restart); n != 1 {
				t.Fatalf("%d operations", n)
			}
			d.Room(7)
			adds(t, l, "b")
			opens(t, d, 1, 5, append(want, "b")...)
			answers(t, "Restart", l.Restart(), api.OK)
			is(t, l, 760, 2)
		}
	}
}

// P8.5: with pending records there is no Restart, until they are dropped or synced; that comes before an error of the disk.
func TestRestartWhilePending(t *testing.T) {
	d := formatted(t, 7, 1, 5)
	l := opens(t, d, 1, 5)
	adds(t, l, "a")
	for _, pending := range []string{"", "b"} {
		appends(t, l, pending)
		left := l.Left()
		before := d.Copy()
		answers(t, "Restart", l.Restart(), api.ErrBusy)
		same(t, d, before)
		is(t, l, left, 1)
		d.Room(0)
		answers(t, "Restart", l.Restart(), api.ErrBusy)
		d.Room(7)
		d.Arm(0)
		answers(t, "Restart", l.Restart(), api.ErrBusy)
		d.Arm(-1)
		answers(t, "Sync", l.Sync(), api.OK)
	}
	opens(t, d, 1, 5, "a", "", "b")
	appends(t, l, "c")
	answers(t, "Restart", l.Restart(), api.ErrBusy)
	l.Drop()
	answers(t, "Restart", l.Restart(), api.OK)
	is(t, l, 760, 2)
	opens(t, d, 1, 5)
}

// P8.4, P8.5: what the log answers while its disk is down is as it was before the call that failed, without what was pending.
func TestWhileDown(t *testing.T) {
	for syncs := range 2 {
		for n := range 6 {
			d, l := synced(t, syncs)
			left := l.Left()
			appends(t, l, text(1, 200), text(2, 200))
			d.Arm(n)
			if n < 5 { // two blocks, a Sync, a mark, and a Sync
				answers(t, "Sync", l.Sync(), api.ErrDown)
			} else {
				answers(t, "Sync", l.Sync(), api.OK)
				left -= 416
				answers(t, "Restart", l.Restart(), api.ErrDown)
			}
			isDown(t, d, l, left)
		}
		for n := range 2 {
			d, l := synced(t, syncs)
			left := l.Left()
			d.Arm(n)
			answers(t, "Restart", l.Restart(), api.ErrDown)
			isDown(t, d, l, left)
		}
	}
}

// isDown tells what a log of the first epoch answers whose disk is down, and that no call brings back what was discarded.
func isDown(t *testing.T, d *disk.Disk, l *wal.Log, left int) {
	t.Helper()
	before := d.Copy()
	is(t, l, left, 1)
	answers(t, "Sync of nothing", l.Sync(), api.OK)
	answers(t, "Restart", l.Restart(), api.ErrDown)
	is(t, l, left, 1)
	answers(t, "Append", l.Append(make([]byte, left+1)), api.ErrFull)
	appends(t, l, text(1, left))
	is(t, l, 0, 1)
	answers(t, "Restart", l.Restart(), api.ErrBusy)
	answers(t, "Sync", l.Sync(), api.ErrDown)
	is(t, l, left, 1)
	answers(t, "Sync of nothing", l.Sync(), api.OK)
	appends(t, l, "b")
	l.Drop()
	is(t, l, left, 1)
	answers(t, "Restart", l.Restart(), api.ErrDown)
	is(t, l, left, 1)
	refuses(t, d, 1, 5, api.ErrDown)
	answers(t, "Format", wal.Format(d, 1, 5), api.ErrDown)
	same(t, d, before)
}
