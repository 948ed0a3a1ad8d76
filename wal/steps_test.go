package wal_test

import (
	"slices"
	"testing"

	"wapentake/api"
	"wapentake/disk"
	"wapentake/wal"
)

// step is an operation of a disk: a write of the block n, or a Sync.
type step struct {
	n int
	b disk.Block
}

// sync is the n of a Sync.
const sync = -1

// makes makes the steps on a disk.
func makes(t *testing.T, d *disk.Disk, steps []step) {
	t.Helper()
	for _, s := range steps {
		if s.n == sync {
			answers(t, "the disk's Sync", d.Sync(), api.OK)
		} else {
			answers(t, "the disk's Write", d.Write(s.n, s.b), api.OK)
		}
	}
}

// tears are numbers of bytes of which a torn write consists; with the first one nothing is torn.
var tears = []int{-1, 0, 1, 8, 23, 24, 25, 47, 48, api.BlockSize - 1}

// choices returns all choices of so many writes.
func choices(writes int) [][]bool {
	var all [][]bool
	for choice := range 1 << writes {
		keep := make([]bool, writes)
		for i := range keep {
			keep[i] = choice>>i&1 == 1
		}
		all = append(all, keep)
	}
	return all
}

// crash is how far a call came: so many of its steps were made, and then these unsynced writes survived.
type crash struct {
	done int
	keep []bool
	torn int
}

// follows tells whether a call makes these steps on a disk, in this order, and no others: wherever the disk goes down, and
// whatever survives, its blocks are as after those steps. After each crash the disk is looked at.
func follows(t *testing.T, d *disk.Disk, call func(d *disk.Disk) api.Errno, steps []step, look func(d *disk.Disk, c crash)) {
	t.Helper()
	for done := range len(steps) + 1 {
		got, want := d.Copy(), d.Copy()
		got.Arm(done)
		makes(t, want, steps[:done])
		if done == len(steps) {
			answers(t, "a call that comes to its end", call(got), api.OK)
		} else {
			answers(t, "a call by which the disk goes down", call(got), api.ErrDown)
			want.Arm(0)
			want.Sync()
		}
		same(t, got, want)
		for _, keep := range choices(want.Loose()) {
			for _, torn := range tears {
				g, w := got.Copy(), want.Copy()
				g.Up(keep, torn)
				w.Up(keep, torn)
				same(t, g, w)
				look(g, crash{done, keep, torn})
			}
		}
	}
}

// past is what happened to a log before a call.
type past struct {
	name     string
	restarts int        // after something was in the log that filled it
	synced   [][]string // then these records were synced
}

// records returns the records that are in the log.
func (p past) records() []string { return slices.Concat(p.synced...) }

// number returns that of the current mark, and its epoch.
func (p past) number() (uint64, uint64) {
	number := 1 + len(p.synced)
	if p.restarts > 0 {
		number += 1 + p.restarts
	}
	return uint64(number), uint64(1 + p.restarts)
}

// disk returns a disk with a log on the blocks 1 to 6 to which all that has happened.
func (p past) disk(t *testing.T) *disk.Disk {
	t.Helper()
	d := formatted(t, 8, 1, 6)
	l := opens(t, d, 1, 6)
	if p.restarts > 0 {
		adds(t, l, text(90, 1016))
	}
	for range p.restarts {
		answers(t, "Restart", l.Restart(), api.OK)
	}
	for _, records := range p.synced {
		adds(t, l, records...)
	}
	number, epoch := p.number()
	end := len(stored(p.records()...))
	if b, _ := d.Read(1 + int(number%2)); b != markOf(number, epoch, uint64(end)) {
		t.Fatalf("%s: the current mark is %x", p.name, b[:48])
	}
	is(t, l, max(0, 1016-end), epoch)
	return d
}

func pasts() []past {
	return []past{
		{"nothing", 0, nil},
		{"a record", 0, [][]string{{"a"}}},
		{"two Syncs", 0, [][]string{{"a", ""}, {text(1, 20)}}},
		{"a restart", 1, nil},
		{"two restarts", 2, nil},
		{"records after a restart", 1, [][]string{{"a"}, {text(1, 300), "b"}}},
		{"three restarts", 3, [][]string{{text(1, 100)}}},
		{"a block", 0, [][]string{{text(1, 248)}}},
		{"all but a byte of a block", 0, [][]string{{text(1, 247)}}},
		{"a byte more than a block", 1, [][]string{{text(1, 249)}}},
		{"all but the half of a length", 0, [][]string{{text(1, 244)}}},
		{"two blocks", 2, [][]string{{text(1, 248)}, {text(2, 248)}}},
		{"all but a length", 0, [][]string{{text(1, 500), text(2, 500)}}},
		{"a full area", 0, [][]string{{text(1, 500), text(2, 508)}}},
	}
}

// news are lists of records that are pending.
func news() [][]string {
	return [][]string{
		{""}, {"x"}, {"", ""}, {"x", "", "yz"}, {text(5, 240)}, {text(5, 248)}, {text(5, 249)}, {text(5, 300), text(6, 300)},
		{text(5, 500)}, {text(5, 760), "x"}, {text(5, 1016)}, {text(5, 1000), ""},
	}
}

// fits reports whether there is room for the records behind the others.
func (p past) fits(records []string) bool {
	return len(stored(append(p.records(), records...)...)) <= 4*api.BlockSize
}

// syncSteps returns the steps of a Sync of these records.
func (p past) syncSteps(records []string) []step {
	before := len(stored(p.records()...))
	area := stored(append(p.records(), records...)...)
	number, epoch := p.number()
	next := step{1 + int((number+1)%2), markOf(number+1, epoch, uint64(len(area)))}
	var steps []step
	for n := 3; n >= 0; n-- {
		if (n+1)*api.BlockSize > before && n*api.BlockSize < len(area) {
			steps = append(steps, step{3 + n, blockOf(area, n)})
		}
	}
	return append(steps, step{n: sync}, next, step{n: sync})
}

// state is what Open finds of a log.
type state struct {
	records []string
	epoch   uint64
}

// found returns which of two states is found after a crash of a call whose steps end with the write of a mark, which makes
// the new state of the old one, and a Sync; it can be both, of a mark that was torn in its second copy.
func (c crash) found(steps int, old, new state) []state {
	switch {
	case c.done == steps:
		return []state{new}
	case c.done < steps-1 || !c.keep[0]:
		return []state{old}
	case c.torn < 0 || c.torn >= 48:
		return []state{new}
	case c.torn < 24:
		return []state{old}
	}
	return []state{old, new}
}

// finds returns the log on a disk, and which one of the states is found, of which there must be one.
func finds(t *testing.T, d *disk.Disk, states []state) (*wal.Log, state) {
	t.Helper()
	l, records, errno := wal.Open(d, 1, 6)
	answers(t, "Open after a crash", errno, api.OK)
	for _, s := range states {
		if s.epoch == l.Epoch() && len(s.records) == len(records) {
			isRecords(t, records, s.records)
			is(t, l, max(0, 1016-len(stored(s.records...))), s.epoch)
			return l, s
		}
	}
	t.Fatalf("after a crash there are %d records, and the epoch %d, want one of %.100v", len(records), l.Epoch(), states)
	return nil, state{}
}

// goesOn tells whether one of the states is found on a disk, and calls behind it are as ever.
func goesOn(t *testing.T, d *disk.Disk, states []state) {
	t.Helper()
	l, s := finds(t, d, states)
	if l.Left() > 0 {
		adds(t, l, "+")
		l = opens(t, d, 1, 6, append(slices.Clone(s.records), "+")...)
	}
	answers(t, "Restart", l.Restart(), api.OK)
	opens(t, d, 1, 6)
}

// P8.1: Format writes mark 1, then mark 0, and then syncs.
func TestStepsOfFormat(t *testing.T) {
	steps := []step{{2, markOf(1, 1, 0)}, {1, disk.Block{}}, {n: sync}}
	disks := []*disk.Disk{disk.New(8), made(t, 8)}
	for _, p := range pasts() {
		disks = append(disks, p.disk(t))
	}
	for _, d := range disks {
		format := func(d *disk.Disk) api.Errno { return wal.Format(d, 1, 6) }
		follows(t, d, format, steps, func(d *disk.Disk, c crash) {
			if c.done == len(steps) {
				goesOn(t, d, []state{{nil, 1}})
			}
		})
	}
}

// P8.4, P8.6: Sync writes the blocks of the new records, the last one first, syncs, writes the next mark, and syncs; after a
// crash the new records are all there, or none of them.
func TestStepsOfSync(t *testing.T) {
	for _, p := range pasts() {
		for _, records := range news() {
			if !p.fits(records) {
				continue
			}
			_, epoch := p.number()
			old, new := state{p.records(), epoch}, state{append(p.records(), records...), epoch}
			steps := p.syncSteps(records)
			call := func(d *disk.Disk) api.Errno {
				l := opens(t, d, 1, 6, p.records()...)
				appends(t, l, records...)
				return l.Sync()
			}
			t.Run(p.name, func(t *testing.T) {
				follows(t, p.disk(t), call, steps, func(d *disk.Disk, c crash) {
					goesOn(t, d, c.found(len(steps), old, new))
				})
			})
		}
	}
}

// P8.5, P8.6: Restart writes the next mark, and syncs; after a crash all records are there, or none.
func TestStepsOfRestart(t *testing.T) {
	for _, p := range pasts() {
		number, epoch := p.number()
		old, new := state{p.records(), epoch}, state{nil, epoch + 1}
		steps := []step{{1 + int((number+1)%2), markOf(number+1, epoch+1, 0)}, {n: sync}}
		call := func(d *disk.Disk) api.Errno { return opens(t, d, 1, 6, p.records()...).Restart() }
		t.Run(p.name, func(t *testing.T) {
			follows(t, p.disk(t), call, steps, func(d *disk.Disk, c crash) {
				goesOn(t, d, c.found(len(steps), old, new))
			})
		})
	}
}

// P8.4: the numbers of the blocks that are written, told one by one: for records that begin with the byte 200 of the area, and
// end with the byte 700 of it.
func TestStepsOfASync(t *testing.T) {
	d := formatted(t, 7, 1, 5)
	adds(t, opens(t, d, 1, 5), text(1, 192))
	area := stored(text(1, 192), text(2, 400), text(3, 84))
	call := func(d *disk.Disk) api.Errno {
		l := opens(t, d, 1, 5, text(1, 192))
		appends(t, l, text(2, 400), text(3, 84))
		return l.Sync()
	}
	steps := []step{
		{5, blockOf(area, 2)}, {4, blockOf(area, 1)}, {3, blockOf(area, 0)}, {n: sync},
		{2, markOf(3, 1, 700)}, {n: sync},
	}
	follows(t, d, call, steps, func(*disk.Disk, crash) {})
}

// P8.4: the bytes before the new records are written as they were on the disk, also those that others wrote there.
func TestBytesBeforeAreAsTheyWere(t *testing.T) {
	d := formatted(t, 7, 1, 5)
	adds(t, opens(t, d, 1, 5), "abc")
	l := opens(t, d, 1, 5, "abc")
	writes(t, d, 3, blockOf(stored("xyz")+text(1, 200), 0))
	adds(t, l, "d")
	if b, _ := d.Read(3); b != blockOf(stored("xyz", "d"), 0) {
		t.Fatalf("the block is %x", b)
	}
	opens(t, d, 1, 5, "xyz", "d")
}

// P8.4: what was written and not synced before is made durable too, and no write of the log is left unsynced.
func TestNothingIsLoose(t *testing.T) {
	d := made(t, 7)
	answers(t, "Format", wal.Format(d, 1, 5), api.OK)
	l := opens(t, d, 1, 5)
	for range 3 {
		for _, call := range []func() api.Errno{
			func() api.Errno { adds(t, l, "a"); return api.OK },
			func() api.Errno { adds(t, l, text(1, 300), "b"); return api.OK },
			l.Restart,
		} {
			d.Write(0, mixed(99))
			answers(t, "a call", call(), api.OK)
			if d.Loose() != 0 {
				t.Fatalf("%d writes are unsynced", d.Loose())
			}
		}
	}
}
