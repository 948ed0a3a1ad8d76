package wal_test

import (
	"testing"

	"wapentake/api"
	"wapentake/disk"
	"wapentake/wal"
)

// R3: what is done with a record after it was appended changes nothing of what is stored.
func TestAppendKeepsNoRecord(t *testing.T) {
	d := formatted(t, 7, 1, 5)
	l := opens(t, d, 1, 5)
	one, two := []byte(text(1, 300)), []byte(text(2, 10))
	answers(t, "Append", l.Append(one), api.OK)
	answers(t, "Append", l.Append(two), api.OK)
	clear(one)
	clear(two)
	answers(t, "Append", l.Append(two), api.OK) // the same memory, with another record
	copy(two, "0123456789")
	answers(t, "Sync", l.Sync(), api.OK)
	clear(two)
	opens(t, d, 1, 5, text(1, 300), text(2, 10), string(make([]byte, 10)))
}

// R3: records are not modified, nor is what stands behind them.
func TestAppendLeavesItsRecord(t *testing.T) {
	room := []byte(text(1, 400))
	for _, length := range []int{0, 1, 8, 100, 230} {
		d := formatted(t, 7, 1, 5)
		l := opens(t, d, 1, 5)
		for range 2 {
			answers(t, "Append", l.Append(room[:length]), api.OK)
			answers(t, "Append", l.Append(nil), api.OK)
		}
		answers(t, "Append", l.Append(room[:length:length]), api.OK)
		answers(t, "Sync", l.Sync(), api.OK)
		answers(t, "Append of too much", l.Append(make([]byte, 769)), api.ErrFull)
		answers(t, "Restart", l.Restart(), api.OK)
		adds(t, l, "x")
		if string(room) != text(1, 400) {
			t.Fatalf("a record of %d bytes was modified, or what is behind it", length)
		}
	}
}

// R3: what is done with the records that Open returns changes nothing of the log, nor of one another.
func TestRecordsAreTheCallers(t *testing.T) {
	want := []string{"one", "", text(1, 300), "", "four"}
	d := formatted(t, 7, 1, 5)
	adds(t, opens(t, d, 1, 5), want...)
	l, records, _ := wal.Open(d, 1, 5)
	_, others, _ := wal.Open(d, 1, 5)
	left := l.Left()
	for i := range records {
		clear(append(records[i], text(2, 40)...)) // in the memory behind it too, if there is any
		clear(records[i])
		isRecords(t, records[i+1:], want[i+1:])
		isRecords(t, others, want)
	}
	clear(records)
	is(t, l, left, 1)
	isRecords(t, others, want)
	adds(t, l, "five")
	l = opens(t, d, 1, 5, append(want, "five")...)
	is(t, l, left-12, 1)
}

// The chapter says that a log retains its disk: it reads and writes the one that it was passed, and no other.
func TestDiskIsRetained(t *testing.T) {
	d := formatted(t, 7, 1, 5)
	l := opens(t, d, 1, 5)
	c := d.Copy()
	adds(t, l, "a")
	opens(t, d, 1, 5, "a")
	opens(t, c, 1, 5)
	answers(t, "Format of the copy", wal.Format(c, 1, 5), api.OK)
	opens(t, d, 1, 5, "a")
	d.Room(0)
	appends(t, l, "b")
	answers(t, "Sync", l.Sync(), api.ErrFull)
	d.Room(7)
	adds(t, l, "c")
	opens(t, d, 1, 5, "a", "c")
	opens(t, c, 1, 5)
}

// R4: the same calls in the same order write the same.
func TestSameCalls(t *testing.T) {
	run := func() *disk.Disk {
		d := formatted(t, 7, 1, 5)
		l := opens(t, d, 1, 5)
		for i := range 20 {
			appends(t, l, text(i, i))
			if i%3 == 0 {
				answers(t, "Sync", l.Sync(), api.OK)
			}
			if i%7 == 0 {
				l.Drop()
				answers(t, "Restart", l.Restart(), api.OK)
			}
		}
		return d
	}
	same(t, run(), run())
}
