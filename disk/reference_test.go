package disk_test

import (
	"testing"

	"wapentake/api"
	"wapentake/disk"
)

// patch is bytes that are written at a place.
type patch struct {
	at    int
	bytes string
}

// reference is the chapter's disk once more: the bytes of all its blocks in a row, over which the unsynced writes are laid
// whenever it is read.
type reference struct {
	synced   string
	loose    []patch
	capacity int
	fuse     int
	armed    bool // whether there is a fuse
	down     bool
}

func newReference(blocks int) reference {
	return reference{synced: string(make([]byte, blocks*api.BlockSize)), capacity: blocks}
}

func (r *reference) blocks() int { return len(r.synced) / api.BlockSize }

// lay returns the bytes with those of the patches over them.
func lay(bytes string, patches []patch) string {
	for _, p := range patches {
		bytes = bytes[:p.at] + p.bytes + bytes[p.at+len(p.bytes):]
	}
	return bytes
}

// fault is an error, and whether it applies.
type fault struct {
	applies bool
	errno   api.Errno
}

// first returns the first error that applies.
func first(faults ...fault) api.Errno {
	for _, f := range faults {
		if f.applies {
			return f.errno
		}
	}
	return api.OK
}

func (r *reference) without(n int) bool { return n < 0 || n >= r.blocks() }

func (r *reference) read(n int) (disk.Block, api.Errno) {
	errno := first(fault{r.down, api.ErrDown}, fault{r.without(n), api.ErrRange})
	if errno != api.OK {
		return disk.Block{}, errno
	}
	all := lay(r.synced, r.loose)
	return disk.Block([]byte(all[n*api.BlockSize : (n+1)*api.BlockSize])), api.OK
}

// burn is what an operation does to the fuse.
func (r *reference) burn() {
	switch {
	case r.down || !r.armed:
	case r.fuse == 0:
		r.down, r.armed = true, false
	default:
		r.fuse--
	}
}

func (r *reference) write(n int, b disk.Block) api.Errno {
	r.burn()
	errno := first(fault{r.down, api.ErrDown}, fault{r.without(n), api.ErrRange}, fault{n >= r.capacity, api.ErrFull})
	if errno == api.OK {
		r.loose = append(r.loose[:len(r.loose):len(r.loose)], patch{n * api.BlockSize, string(b[:])})
	}
	return errno
}

func (r *reference) sync() api.Errno {
	r.burn()
	if r.down {
		return api.ErrDown
	}
	r.synced, r.loose = lay(r.synced, r.loose), nil
	return api.OK
}

func (r *reference) arm(operations int) { r.fuse, r.armed = operations, operations >= 0 }

func (r *reference) up(keep []bool, torn int) {
	var kept []patch
	for i, p := range r.loose {
		if i < len(keep) && keep[i] {
			kept = append(kept, p)
		}
	}
	if len(kept) > 0 && torn >= 0 && torn <= api.BlockSize-1 {
		kept[len(kept)-1].bytes = kept[len(kept)-1].bytes[:torn]
	}
	*r = reference{synced: lay(r.synced, kept), capacity: r.capacity}
}

// twin is a disk, and the reference, which must answer as it does.
type twin struct {
	*testing.T
	d    *disk.Disk
	want reference
	said string // the calls until now
}

func newTwin(t *testing.T, blocks int) *twin {
	w := &twin{T: t, d: made(t, blocks), want: newReference(blocks)}
	w.look("New")
	return w
}

// look holds all that can be read of the disk against the reference.
func (w *twin) look(call string) {
	w.Helper()
	w.said += " " + call
	if w.d.Blocks() != w.want.blocks() || w.d.Down() != w.want.down || w.d.Loose() != len(w.want.loose) {
		w.Fatalf("%s: %d blocks, down %v, %d loose, want %+v", w.said, w.d.Blocks(), w.d.Down(), w.d.Loose(), w.want)
	}
	for n := -1; n <= w.want.blocks(); n++ {
		b, errno := w.d.Read(n)
		if want, wantErrno := w.want.read(n); b != want || errno != wantErrno {
			w.Fatalf("%s, Read(%d): %x, %d, want %x, %d", w.said, n, b, errno, want, wantErrno)
		}
	}
}

func (w *twin) write(n int, b disk.Block) {
	w.Helper()
	if errno, want := w.d.Write(n, b), w.want.write(n, b); errno != want {
		w.Fatalf("%s, Write(%d): %d, want %d", w.said, n, errno, want)
	}
	w.look("Write")
}

func (w *twin) sync() {
	w.Helper()
	if errno, want := w.d.Sync(), w.want.sync(); errno != want {
		w.Fatalf("%s, Sync: %d, want %d", w.said, errno, want)
	}
	w.look("Sync")
}

func (w *twin) room(n int) {
	w.Helper()
	w.d.Room(n)
	w.want.capacity = n
	w.look("Room")
}

func (w *twin) arm(operations int) {
	w.Helper()
	w.d.Arm(operations)
	w.want.arm(operations)
	w.look("Arm")
}

func (w *twin) up(keep []bool, torn int) {
	w.Helper()
	w.d.Up(keep, torn)
	w.want.up(keep, torn)
	w.look("Up")
}

// copied returns a twin of a copy.
func (w *twin) copied() *twin {
	w.Helper()
	c := *w
	c.d = w.d.Copy()
	if c.d == nil {
		w.Fatalf("%s, Copy: nil", w.said)
	}
	c.look("Copy")
	return &c
}
