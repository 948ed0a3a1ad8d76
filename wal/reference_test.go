package wal_test

import (
	"encoding/binary"
	"testing"

	"wapentake/api"
	"wapentake/disk"
	"wapentake/wal"
)

// reference is the chapter's log once more: it keeps its records, and lays all of them anew whenever it writes.
type reference struct {
	d             *disk.Disk
	first, size   int
	number, epoch uint64
	records       []string
	pending       []string
}

// validMark reads what is in mark 0 or mark 1 of the log.
func (r *reference) validMark(place int) (number, epoch, end uint64, ok bool) {
	b, _ := r.d.Read(r.first + place)
	number, epoch, end = binary.BigEndian.Uint64(b[0:]), binary.BigEndian.Uint64(b[8:]), binary.BigEndian.Uint64(b[16:])
	if string(b[0:24]) != string(b[24:48]) {
		return 0, 0, 0, false
	}
	if place == 0 {
		return number, epoch, end, number%2 == 0 && number >= 2
	}
	return number, epoch, end, number%2 == 1
}

// area returns all of its bytes.
func (r *reference) area() string {
	var all []byte
	for n := 2; n < r.size; n++ {
		b, _ := r.d.Read(r.first + n)
		all = append(all, b[:]...)
	}
	return string(all)
}

// open reads all from the disk.
func (r *reference) open() api.Errno {
	r.records, r.pending = nil, nil
	if r.d.Down() {
		return api.ErrDown
	}
	number, epoch, end, ok := r.validMark(0)
	if n, e, o, valid := r.validMark(1); valid && (!ok || n > number) {
		number, epoch, end, ok = n, e, o, true
	}
	area := r.area()
	if !ok || end > uint64(len(area)) {
		return api.ErrForm
	}
	area = area[:end]
	for area != "" {
		if len(area) < 8 {
			return api.ErrForm
		}
		length := binary.BigEndian.Uint64([]byte(area))
		if length > uint64(len(area)-8) {
			return api.ErrForm
		}
		r.records = append(r.records, area[8:8+length])
		area = area[8+length:]
	}
	r.number, r.epoch = number, epoch
	return api.OK
}

func (r *reference) all() []string {
	return append(r.records[:len(r.records):len(r.records)], r.pending...)
}

func (r *reference) left() int { return max(0, (r.size-2)*256-len(stored(r.all()...))-8) }

func (r *reference) append(b string) api.Errno {
	if len(stored(append(r.all(), b)...)) > (r.size-2)*256 {
		return api.ErrFull
	}
	r.pending = append(r.pending, b)
	return api.OK
}

// mark writes the mark with the next number, and syncs.
func (r *reference) mark(epoch uint64, end int) api.Errno {
	place := r.first
	if r.number%2 == 0 {
		place = r.first + 1
	}
	if errno := r.d.Write(place, markOf(r.number+1, epoch, uint64(end))); errno != api.OK {
		return errno
	}
	if errno := r.d.Sync(); errno != api.OK {
		return errno
	}
	r.number, r.epoch = r.number+1, epoch
	return api.OK
}

// lay writes the blocks of the area, the last one first, that have bytes from one place to another, and syncs.
func (r *reference) lay(area string, from int) api.Errno {
	for n := r.size; n >= 0; n-- {
		if n < from/256 || n > (len(area)-1)/256 {
			continue
		}
		if errno := r.d.Write(r.first+2+n, blockOf(area, n)); errno != api.OK {
			return errno
		}
	}
	return r.d.Sync()
}

func (r *reference) sync() api.Errno {
	if len(r.pending) == 0 {
		return api.OK
	}
	all := r.all()
	r.pending = nil
	errno := r.lay(stored(all...), len(stored(r.records...)))
	if errno == api.OK {
		errno = r.mark(r.epoch, len(stored(all...)))
	}
	if errno == api.OK {
		r.records = all
	}
	return errno
}

func (r *reference) restart() api.Errno {
	if len(r.pending) > 0 {
		return api.ErrBusy
	}
	errno := r.mark(r.epoch+1, 0)
	if errno == api.OK {
		r.records = nil
	}
	return errno
}

// twin is a log, and the reference on a disk in the same state, which must answer as it does.
type twin struct {
	*testing.T
	d    *disk.Disk
	l    *wal.Log
	want reference
	said string // the calls until now
}

// newTwin returns a twin on blocks of a disk that other logs used.
func newTwin(t *testing.T, blocks, first, size int) *twin {
	d := made(t, blocks)
	for _, s := range []int{blocks, size} {
		answers(t, "Format", wal.Format(d, 0, s), api.OK)
		adds(t, opens(t, d, 0, s), text(80+s, (s-2)*256-8))
	}
	answers(t, "Format", wal.Format(d, first, size), api.OK)
	w := &twin{T: t, d: d, want: reference{d: d.Copy(), first: first, size: size}}
	w.open()
	w.look()
	return w
}

// look holds all that can be seen of the log against the reference.
func (w *twin) look() {
	w.Helper()
	if w.l.Left() != w.want.left() || w.l.Epoch() != w.want.epoch {
		w.Fatalf("%s: %d left, epoch %d, want %d, %d", w.said, w.l.Left(), w.l.Epoch(), w.want.left(), w.want.epoch)
	}
	same(w.T, w.d, w.want.d)
	if !w.d.Down() {
		l := opens(w.T, w.d, w.want.first, w.want.size, w.want.records...)
		if l.Epoch() != w.want.epoch {
			w.Fatalf("%s, Open: epoch %d, want %d", w.said, l.Epoch(), w.want.epoch)
		}
	}
}

// answer holds what a call answered against the reference's answer.
func (w *twin) answer(call string, errno, want api.Errno) {
	w.Helper()
	w.said += " " + call
	answers(w.T, w.said, errno, want)
}

func (w *twin) open() {
	w.Helper()
	l, records, errno := wal.Open(w.d, w.want.first, w.want.size)
	if w.d.Down() { // the log stays as it is
		w.answer("Open", errno, api.ErrDown)
		return
	}
	w.answer("Open", errno, api.OK)
	w.answer("that of the reference", w.want.open(), api.OK)
	isRecords(w.T, records, w.want.records)
	w.l = l
}

func (w *twin) append(seed, length int) {
	w.Helper()
	b := text(seed, length)
	w.answer("Append", w.l.Append([]byte(b)), w.want.append(b))
}

func (w *twin) sync() { w.Helper(); w.answer("Sync", w.l.Sync(), w.want.sync()) }

func (w *twin) restart() { w.Helper(); w.answer("Restart", w.l.Restart(), w.want.restart()) }

func (w *twin) drop() { w.said += " Drop"; w.l.Drop(); w.want.pending = nil }

func (w *twin) room(n int) { w.said += " Room"; w.d.Room(n); w.want.d.Room(n) }

func (w *twin) arm(n int) { w.said += " Arm"; w.d.Arm(n); w.want.d.Arm(n) }

// up is a failure of the disk, after which the log is opened again.
func (w *twin) up(keep []bool, torn int) {
	w.Helper()
	w.said += " Up"
	w.d.Up(keep, torn)
	w.want.d.Up(keep, torn)
	w.open()
}
