package wal_test

import (
	"math"
	"testing"

	"wapentake/api"
	"wapentake/disk"
)

// none stands for the number of a mark where there is something else.
const none = math.MaxUint64 - 7

// laid returns a disk with a log on the blocks 1 to 5, whose marks are two blocks, and whose area begins with some bytes.
func laid(t *testing.T, mark0, mark1 disk.Block, area string) *disk.Disk {
	t.Helper()
	d := made(t, 7)
	writes(t, d, 1, mark0)
	writes(t, d, 2, mark1)
	for n := range 3 {
		if len(area) > n*api.BlockSize {
			b := mixed(n + 10) // behind the bytes stands something
			copy(b[:], area[n*api.BlockSize:])
			writes(t, d, n+3, b)
		}
	}
	return d
}

// P8.2: of the marks that are valid, each at its place, the one with the greater number counts, and with it its epoch and end.
func TestCurrentMark(t *testing.T) {
	cases := []struct {
		number0, number1 uint64
		current          int // its place; -1 for none
	}{
		{none, none, -1}, {0, 0, -1}, {0, none, -1}, {none, 0, -1},
		{1, none, -1}, {none, 2, -1}, {1, 2, -1}, {3, 2, -1}, {1, 0, -1}, {0, 2, -1},
		{math.MaxUint64, 4, -1},
		{0, 1, 1}, {none, 1, 1}, {1, 1, 1}, {none, 3, 1}, {0, math.MaxUint64, 1},
		{2, none, 0}, {2, 0, 0}, {2, 2, 0}, {2, 4, 0}, {4, none, 0}, {1 << 63, none, 0},
		{2, 1, 0}, {2, 3, 1}, {4, 3, 0}, {4, 5, 1}, {100, 3, 0}, {100, 1001, 1}, {5, 3, 1}, {4, 6, 0},
		{256, 255, 0}, {256, 257, 1}, {1 << 32, 3, 0}, {2, 1<<40 + 1, 1}, {1 << 56, 1<<48 + 1, 0},
		{1 << 63, 3, 0}, {2, 1<<63 + 1, 1}, {1 << 63, 1<<63 - 1, 0}, {math.MaxUint64 - 1, math.MaxUint64, 1},
		{math.MaxUint64 - 1, math.MaxUint64 - 2, 0},
	}
	records := []string{"first", text(1, 300)}
	ends := []int{13, 13 + 308} // of the one mark and the other
	for _, c := range cases {
		for turn := range 2 {
			marks := [2]disk.Block{mixed(50), mixed(60)}
			for place, number := range []uint64{c.number0, c.number1} {
				if number != none {
					marks[place] = markOf(number, uint64(70+place), uint64(ends[place^turn]))
				}
			}
			d := laid(t, marks[0], marks[1], stored(records...))
			if c.current < 0 {
				refuses(t, d, 1, 5, api.ErrForm)
				continue
			}
			l := opens(t, d, 1, 5, records[:1+(c.current^turn)]...)
			is(t, l, 760-ends[c.current^turn], uint64(70+c.current))
		}
	}
}

// P8.4, P8.5: the next mark is written where the current one is not, with the next number.
func TestNextMark(t *testing.T) {
	for _, c := range []struct {
		number0, number1 uint64
		number           uint64
		next             int
	}{
		{0, 1, 2, 1}, {none, 1, 2, 1}, {2, 1, 3, 2}, {2, none, 3, 2}, {2, 3, 4, 1}, {6, 3, 7, 2}, {2, 9, 10, 1}, {1, 9, 10, 1},
		{256, 255, 257, 2}, {2, 1<<63 + 1, 1<<63 + 2, 1}, {math.MaxUint64 - 3, math.MaxUint64 - 2, math.MaxUint64 - 1, 1},
	} {
		marks := [2]disk.Block{mixed(50), mixed(60)}
		for place, number := range []uint64{c.number0, c.number1} {
			if number != none {
				marks[place] = markOf(number, 7, 9)
			}
		}
		d := laid(t, marks[0], marks[1], stored("r"))
		want := d.Copy()
		writes(t, want, c.next, markOf(c.number, 8, 0))
		r := d.Copy()
		l := opens(t, r, 1, 5, "r")
		answers(t, "Restart", l.Restart(), api.OK)
		same(t, r, want)
		is(t, l, 760, 8)

		writes(t, want, c.next, markOf(c.number, 7, 18))
		writes(t, want, 3, blockOf(stored("r", "s"), 0))
		l = opens(t, d, 1, 5, "r")
		adds(t, l, "s")
		same(t, d, want)
		is(t, l, 760-18, 7)
		adds(t, l, "t") // and the one behind it at the other place
		opens(t, d, 1, 5, "r", "s", "t")
	}
}

// P8.2: a mark is valid only if all of its copies are equal; what stands behind them makes no difference.
func TestChangedMarks(t *testing.T) {
	older, newer := markOf(2, 3, 13), markOf(5, 4, 14)
	for i := range api.BlockSize {
		for _, bits := range []byte{1, 0x80, 0xff} {
			changed := newer
			changed[i] ^= bits
			d := laid(t, older, changed, stored("first")+"\xff")
			switch {
			case i < 48:
				l := opens(t, d, 1, 5, "first")
				is(t, l, 760-13, 3)
				refuses(t, laid(t, mixed(9), changed, stored("first")), 1, 5, api.ErrForm)
			default:
				refuses(t, d, 1, 5, api.ErrForm) // by the newer one's end
				changed = older
				changed[i] ^= bits
				is(t, opens(t, laid(t, changed, mixed(9), stored("first")), 1, 5, "first"), 760-13, 3)
			}
		}
	}
}

// P8.2: a mark of which both copies are changed alike is what they say.
func TestMarksChangedAlike(t *testing.T) {
	for i := range 24 {
		changed := markOf(1, 1, 0)
		changed[i] ^= 0x10
		changed[24+i] ^= 0x10
		number, epoch, end := uint64(1), uint64(1), uint64(0)
		switch i / 8 {
		case 0:
			number ^= 0x10 << (8 * (7 - i))
		case 1:
			epoch ^= 0x10 << (8 * (15 - i))
		case 2:
			end ^= 0x10 << (8 * (23 - i))
		}
		if changed != markOf(number, epoch, end) {
			t.Fatal("the test's own marks differ")
		}
		d := laid(t, disk.Block{}, changed, stored("12345678"))
		switch end {
		case 0:
			is(t, opens(t, d, 1, 5), 760, epoch)
		case 16:
			is(t, opens(t, d, 1, 5, "12345678"), 744, 1)
		default:
			refuses(t, d, 1, 5, api.ErrForm)
		}
	}
}

// P8.2: the end of a log is at most that of its area.
func TestEnds(t *testing.T) {
	most := text(1, 760)
	for _, c := range []struct {
		end     uint64
		records []string // nil if the end cannot be
	}{
		{0, []string{}}, {768, []string{most}}, {769, nil}, {1024, nil}, {767, nil},
		{1 << 31, nil}, {1 << 32, nil}, {1<<32 + 768, nil}, {1 << 63, nil}, {1<<63 + 768, nil},
		{math.MaxUint64, nil}, {math.MaxUint64 - 255, nil}, {math.MaxUint64 - 767, nil},
	} {
		for place := range uint64(2) {
			marks := [2]disk.Block{mixed(50), mixed(60)}
			marks[place] = markOf(2+place, 6, c.end)
			d := laid(t, marks[0], marks[1], stored(most))
			if c.records == nil {
				refuses(t, d, 1, 5, api.ErrForm)
				continue
			}
			is(t, opens(t, d, 1, 5, c.records...), max(0, 760-int(c.end)), 6)
		}
	}
}

// P8.2: an end beyond the area is no end, even where the disk has blocks behind it.
func TestEndBehindTheArea(t *testing.T) {
	d := made(t, 7)
	writes(t, d, 0, mixed(50))
	writes(t, d, 1, markOf(1, 1, 257))
	area := stored(text(1, 249))
	for n := range 2 {
		writes(t, d, n+2, blockOf(area, n))
	}
	refuses(t, d, 0, 3, api.ErrForm)
	opens(t, d, 0, 4, text(1, 249))
}

// P8.2: the bytes up to the end are complete records, or there is no log.
func TestIncompleteRecords(t *testing.T) {
	length := func(n uint64) string { b := markOf(n, 0, 0); return string(b[:8]) }
	for _, c := range []struct {
		area    string
		end     uint64
		records []string // nil if they are not complete
	}{
		{stored(""), 8, []string{""}}, {stored("", ""), 16, []string{"", ""}}, {stored("", ""), 8, []string{""}},
		{stored(""), 1, nil}, {stored(""), 7, nil}, {stored(""), 9, nil}, {stored("", ""), 15, nil},
		{stored("abc"), 11, []string{"abc"}}, {stored("abc"), 10, nil}, {stored("abc"), 8, nil}, {stored("abc"), 12, nil},
		{stored("abc", "de"), 21, []string{"abc", "de"}}, {stored("abc", "de"), 20, nil}, {stored("abc", "de"), 18, nil},
		{stored("abc", "de"), 11, []string{"abc"}}, {stored("abc", "de"), 13, nil}, {stored("abc", "de"), 19, nil},
		{length(1), 8, nil}, {length(2) + "a", 9, nil}, {length(0) + length(1), 16, nil},
		{length(math.MaxUint64), 8, nil}, {length(math.MaxUint64 - 7), 8, nil}, {length(math.MaxUint64-7) + "12345678", 16, nil},
		{length(1<<63) + "a", 9, nil}, {length(1<<63+1) + "a", 9, nil}, {length(1<<32) + "a", 9, nil}, {length(1<<32+1) + "a", 9, nil},
		{length(256) + text(1, 256), 264, []string{text(1, 256)}}, {length(257) + text(1, 256), 264, nil},
		{length(760) + text(1, 760), 768, []string{text(1, 760)}}, {length(761) + text(1, 760), 768, nil},
		{length(759) + text(1, 760), 768, nil}, {stored(text(1, 752), ""), 768, []string{text(1, 752), ""}},
		{stored(text(1, 751)) + length(0), 768, nil}, {stored(text(1, 751)) + length(0), 767, []string{text(1, 751), ""}},
	} {
		d := laid(t, mixed(50), markOf(1, 1, c.end), c.area)
		if c.records == nil {
			refuses(t, d, 1, 5, api.ErrForm)
			continue
		}
		l := opens(t, d, 1, 5, c.records...)
		is(t, l, max(0, 760-int(c.end)), 1)
	}
}

// P8.2: the current mark decides, even if it is that of no log and the other one is: there is no going back.
func TestCurrentMarkDecides(t *testing.T) {
	good, area := markOf(2, 1, 9), stored("g")
	opens(t, laid(t, good, disk.Block{}, area), 1, 5, "g")
	for _, end := range []uint64{769, 8, 1, math.MaxUint64} {
		refuses(t, laid(t, good, markOf(3, 1, end), area), 1, 5, api.ErrForm)
	}
	good = markOf(4, 1, 9)
	for _, end := range []uint64{769, 8, 1, math.MaxUint64} {
		opens(t, laid(t, good, markOf(3, 1, end), area), 1, 5, "g")
	}
}
