package disk_test

import (
	"math/rand"
	"testing"

	"wapentake/api"
)

// below returns what answers with numbers at random.
func below(seed int64) func(n int) int {
	return rand.New(rand.NewSource(seed)).Intn
}

// steps are calls of a disk of two blocks, of which one after another changes what the next one does.
func steps() []func(w *twin) {
	a, b := mixed(1), mixed(2)
	return []func(w *twin){
		func(w *twin) { w.write(0, a) },
		func(w *twin) { w.write(1, a) },
		func(w *twin) { w.write(1, b) },
		func(w *twin) { w.write(2, a) },
		func(w *twin) { w.sync() },
		func(w *twin) { w.room(-1) },
		func(w *twin) { w.room(1) },
		func(w *twin) { w.room(2) },
		func(w *twin) { w.arm(-1) },
		func(w *twin) { w.arm(0) },
		func(w *twin) { w.arm(1) },
		func(w *twin) { w.up(nil, -1) },
		func(w *twin) { w.up([]bool{true}, 1) },
		func(w *twin) { w.up([]bool{true, true, true}, api.BlockSize-1) },
		func(w *twin) { w.up([]bool{false, true, false, true, true}, -1) },
	}
}

// try makes all calls, in all orders, on a disk that was brought here.
func try(w *twin, calls []func(w *twin), more int) {
	if more == 0 {
		return
	}
	for _, call := range calls {
		next := w.copied()
		call(next)
		try(next, calls, more-1)
	}
}

// P7.1 to P7.7: after any four calls the disk is what the chapter says.
func TestShortOrders(t *testing.T) {
	try(newTwin(t, 2), steps(), 4)
}

// at makes a call at random.
func (w *twin) at(next func(n int) int) {
	blocks := w.want.blocks()
	switch next(12) {
	case 0, 1, 2, 3, 4, 5:
		w.write(next(blocks+2)-1, mixed(next(1000)))
	case 6, 7:
		w.sync()
	case 8:
		w.room(next(blocks+3) - 1)
	case 9:
		w.arm(next(12) - 2)
	default:
		keep := make([]bool, next(9))
		for i := range keep {
			keep[i] = next(3) > 0
		}
		w.up(keep, next(api.BlockSize+3)-1)
	}
}

// P7.1 to P7.7: disks and their copies, through many calls at random.
func TestLongOrders(t *testing.T) {
	for seed := range int64(150) {
		next := below(seed)
		twins := []*twin{newTwin(t, 1+next(5))}
		for range 60 {
			w := twins[next(len(twins))]
			if next(15) == 0 {
				twins = append(twins, w.copied())
			}
			w.at(next)
		}
		for _, w := range twins {
			w.look("the end")
		}
	}
}
