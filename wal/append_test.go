package wal_test

import (
	"strings"
	"testing"

	"wapentake/api"
	"wapentake/wal"
)

// withLeft returns a log of one record, behind which a record of so many bytes has room (less than 0: not even its length),
// and that record.
func withLeft(t *testing.T, left int) (*wal.Log, string) {
	t.Helper()
	first := text(1, 768-16-left)
	d := formatted(t, 7, 1, 5)
	adds(t, opens(t, d, 1, 5), first)
	return opens(t, d, 1, 5, first), first
}

// P8.3: there is room for a record of just the bytes that are left, and not for one more.
func TestLeft(t *testing.T) {
	for left := -8; left <= 752; left++ {
		l, _ := withLeft(t, left)
		is(t, l, max(left, 0), 1)
		if left < 0 {
			answers(t, "Append", l.Append(nil), api.ErrFull)
			answers(t, "Append", l.Append([]byte{}), api.ErrFull)
			answers(t, "Append", l.Append([]byte("x")), api.ErrFull)
			is(t, l, 0, 1)
			continue
		}
		answers(t, "Append of one more", l.Append(make([]byte, left+1)), api.ErrFull)
		is(t, l, left, 1)
		answers(t, "Append", l.Append(make([]byte, left)), api.OK)
		is(t, l, 0, 1)
		answers(t, "Append", l.Append(nil), api.ErrFull)
	}
}

// P8.3: pending records take room as others do, until they are dropped.
func TestPendingRecordsTakeRoom(t *testing.T) {
	for _, lengths := range [][]int{{0}, {1}, {0, 0}, {1, 2}, {100, 100, 100}, {248, 248}, {247, 249}, {256, 256}} {
		for rest := -9; rest <= 9; rest++ {
			want := 752
			l, _ := withLeft(t, want)
			for _, n := range lengths {
				appends(t, l, text(2, n))
				want -= 8 + n
				is(t, l, want, 1)
			}
			last := want - 8 - rest // behind it, a record of so many bytes has room
			if rest < -8 {
				answers(t, "Append", l.Append(make([]byte, last)), api.ErrFull)
				is(t, l, want, 1)
			} else {
				appends(t, l, text(3, last))
				is(t, l, max(rest, 0), 1)
				answers(t, "Append of one more", l.Append(make([]byte, max(rest, -1)+1)), api.ErrFull)
			}
			l.Drop()
			is(t, l, 752, 1)
		}
	}
}

// P8.3: a record for which there is no room changes nothing of those that are pending.
func TestFullAppendChangesNothing(t *testing.T) {
	d := formatted(t, 7, 1, 5)
	l := opens(t, d, 1, 5)
	appends(t, l, "a")
	for _, n := range []int{752, 753, 760, 768, 1024, 1 << 24} {
		answers(t, "Append", l.Append(make([]byte, n)), api.ErrFull)
		is(t, l, 751, 1)
	}
	appends(t, l, "b", text(1, 742))
	is(t, l, 0, 1)
	answers(t, "Append", l.Append(nil), api.ErrFull)
	answers(t, "Sync", l.Sync(), api.OK)
	answers(t, "Append", l.Append(nil), api.ErrFull)
	answers(t, "Sync", l.Sync(), api.OK)
	opens(t, d, 1, 5, "a", "b", text(1, 742))
}

// P8.3, P8.5: an area that is full is empty again after a Restart.
func TestFullArea(t *testing.T) {
	d := formatted(t, 7, 1, 5)
	l := opens(t, d, 1, 5)
	for i := range 5 {
		is(t, l, 760, uint64(1+i))
		var want []string
		for left := 760; left > 0; left = l.Left() {
			want = append(want, text(i, min(left, 9+50*i)))
			adds(t, l, want[len(want)-1])
			if l.Left() >= left {
				t.Fatalf("%d bytes are left, before it were %d", l.Left(), left)
			}
		}
		answers(t, "Append", l.Append(nil), api.ErrFull)
		l = opens(t, d, 1, 5, want...)
		answers(t, "Append", l.Append(nil), api.ErrFull)
		answers(t, "Restart", l.Restart(), api.OK)
		opens(t, d, 1, 5)
	}
}

// P8.3: the length of what is left is that of the area, which has size - 2 blocks.
func TestSizes(t *testing.T) {
	for size := 3; size <= 9; size++ {
		d := formatted(t, 10, 1, size)
		l := opens(t, d, 1, size)
		want := (size-2)*api.BlockSize - 8
		is(t, l, want, 1)
		answers(t, "Append", l.Append(make([]byte, want+1)), api.ErrFull)
		all := strings.Repeat("x", want)
		adds(t, l, all)
		opens(t, d, 1, size, all)
	}
}

// P8.3, P8.4: records that end at the end of a block, just before and just behind it, and lengths that lie across it.
func TestEndsOfBlocks(t *testing.T) {
	for end := 240; end <= 272; end++ {
		for next := 0; next <= 24; next++ {
			d := formatted(t, 7, 1, 5)
			l := opens(t, d, 1, 5)
			records := []string{text(1, end-8)}
			adds(t, l, records...)
			records = append(records, text(2, next))
			adds(t, l, records[1])
			l = opens(t, d, 1, 5, records...)
			records = append(records, text(3, 256), "")
			adds(t, l, records[2:]...)
			is(t, l, 760-end-8-next-264-8, 1)
			l = opens(t, d, 1, 5, records...)
			is(t, l, 760-end-8-next-264-8, 1)
		}
	}
}

// P8.3: so many records as there is room for, of no bytes and of one.
func TestManyRecords(t *testing.T) {
	for length := range 2 {
		d := formatted(t, 7, 1, 5)
		l := opens(t, d, 1, 5)
		var want []string
		for len(want) < 768 && l.Append([]byte(text(len(want), length))) == api.OK {
			want = append(want, text(len(want), length))
		}
		if len(want) != 768/(8+length) {
			t.Fatalf("room for %d records of %d bytes", len(want), length)
		}
		answers(t, "Sync", l.Sync(), api.OK)
		opens(t, d, 1, 5, want...)
	}
}
