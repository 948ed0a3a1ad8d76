package wal_test

import (
	"math/rand"
	"slices"
	"testing"

	"wapentake/api"
	"wapentake/wal"
)

// calls are those of a log on the blocks 1 to 4 of a disk with 6, of which one after another changes what the next one does.
func calls() []func(w *twin) {
	return []func(w *twin){
		func(w *twin) { w.append(1, 0) },
		func(w *twin) { w.append(2, 240) },
		func(w *twin) { w.append(3, w.want.left()) },
		func(w *twin) { w.append(4, w.want.left()+1) },
		func(w *twin) { w.drop() },
		func(w *twin) { w.sync() },
		func(w *twin) { w.restart() },
		func(w *twin) { w.open() },
		func(w *twin) { w.room(2) },
		func(w *twin) { w.room(4) },
		func(w *twin) { w.room(6) },
		func(w *twin) { w.arm(0) },
		func(w *twin) { w.arm(2) },
		func(w *twin) { w.up(nil, -1) },
		func(w *twin) { w.up([]bool{true, true, true}, 24) },
	}
}

// try makes calls behind others, in all orders.
func try(t *testing.T, before []func(w *twin), more int) {
	if more == 0 {
		return
	}
	for _, call := range calls() {
		w := newTwin(t, 6, 1, 4)
		w.append(9, 100)
		w.sync()
		order := append(before[:len(before):len(before)], call)
		for _, c := range order {
			c(w)
		}
		w.look()
		try(t, order, more-1)
	}
}

// P8.1 to P8.6: after any four calls, on a log that holds something, it is what the chapter says.
func TestShortOrders(t *testing.T) {
	try(t, nil, 4)
}

// at makes a call at random.
func (w *twin) at(next func(n int) int) {
	w.Helper()
	switch next(16) {
	case 0, 1, 2, 3:
		w.append(next(50), next(40))
	case 4:
		w.append(next(50), next(w.want.left()+10))
	case 5:
		w.append(next(50), max(0, w.want.left()-9+next(11)))
	case 6, 7, 8:
		w.sync()
	case 9:
		w.drop()
	case 10, 11:
		w.restart()
	case 12:
		w.open()
	case 13:
		w.arm(next(12) - 3)
	case 14:
		w.room(next(w.d.Blocks() + 2))
		if next(3) > 0 {
			w.room(w.d.Blocks())
		}
	default:
		keep := make([]bool, next(7))
		for i := range keep {
			keep[i] = next(3) > 0
		}
		w.up(keep, next(api.BlockSize+40)-20)
	}
}

// P8.1 to P8.6: logs through many calls at random, and through failures of the disk.
func TestLongOrders(t *testing.T) {
	for seed := range int64(400) {
		next := rand.New(rand.NewSource(seed)).Intn
		size := 3 + next(4)
		first := next(3)
		w := newTwin(t, first+size+next(3), first, size)
		for range 100 {
			w.at(next)
			w.look()
		}
	}
}

// change makes a Restart, or a Sync of records, at random, and returns the state that it makes of the old one.
func change(t *testing.T, l *wal.Log, old state, next func(n int) int) (state, api.Errno) {
	t.Helper()
	if next(5) == 0 || l.Left() < 200 {
		return state{nil, old.epoch + 1}, l.Restart()
	}
	new := state{slices.Clone(old.records), old.epoch}
	for range 1 + next(3) {
		record := text(next(50), next(30))
		appends(t, l, record)
		new.records = append(new.records, record)
	}
	return new, l.Sync()
}

// P8.6: through failures at any operation a log has the records that were synced, and of a call that failed all or none.
func TestFailures(t *testing.T) {
	for seed := range int64(400) {
		next := rand.New(rand.NewSource(seed)).Intn
		d := formatted(t, 8, 1, 6)
		last := state{nil, 1}
		for range 40 {
			l := opens(t, d, 1, 6, last.records...)
			d.Arm(next(20))
			old := last
			for errno := api.OK; errno == api.OK; {
				old = last
				last, errno = change(t, l, old, next)
			}
			d.Up([]bool{next(2) == 0, next(2) == 0, next(2) == 0}, next(api.BlockSize+40)-20)
			_, last = finds(t, d, []state{old, last})
		}
	}
}
