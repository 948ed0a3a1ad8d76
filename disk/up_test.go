package disk_test

import (
	"math"
	"slices"
	"testing"

	"wapentake/api"
	"wapentake/disk"
)

// P7.6: without a list, or with one that keeps none, all unsynced writes are lost.
func TestUpKeepsNone(t *testing.T) {
	for _, keep := range [][]bool{nil, {}, {false}, {false, false}, {false, false, true}, make([]bool, 9)} {
		for _, torn := range []int{-1, 0, 7, api.BlockSize} {
			d := made(t, 2)
			writes(t, d, 0, mixed(1))
			syncs(t, d)
			writes(t, d, 0, mixed(2))
			writes(t, d, 1, mixed(3))
			d.Up(keep, torn)
			isLoose(t, d, 0)
			holds(t, d, 0, mixed(1))
			holds(t, d, 1, disk.Block{})
		}
	}
}

// P7.6: a write survives if keep is true at its index, for lists that are shorter than the writes, as long, and longer.
func TestUpKeepsSome(t *testing.T) {
	const blocks = 4
	for length := range blocks + 2 {
		for choice := range 1 << length {
			d := made(t, blocks)
			for n := range blocks {
				writes(t, d, n, mixed(n))
			}
			keep := make([]bool, length)
			for i := range keep {
				keep[i] = choice>>i&1 == 1
			}
			d.Up(keep, -1)
			isLoose(t, d, 0)
			for n := range blocks {
				want := disk.Block{}
				if n < length && keep[n] {
					want = mixed(n)
				}
				holds(t, d, n, want)
			}
		}
	}
}

// P7.6: the index is that among the unsynced writes, not among all.
func TestUpCountsUnsyncedWrites(t *testing.T) {
	d := made(t, 3)
	writes(t, d, 0, mixed(0))
	writes(t, d, 1, mixed(1))
	syncs(t, d)
	writes(t, d, 2, mixed(2))
	answers(t, "Write(3)", d.Write(3, full(1)), api.ErrRange)
	writes(t, d, 0, mixed(3))
	d.Up([]bool{false, true}, -1)
	holds(t, d, 0, mixed(3))
	holds(t, d, 1, mixed(1))
	holds(t, d, 2, disk.Block{})
	writes(t, d, 2, mixed(4))
	d.Up([]bool{true}, -1)
	holds(t, d, 2, mixed(4))
}

// P7.6: of the last write that survives the first torn bytes are written, over what the block was without it.
func TestTorn(t *testing.T) {
	torn := map[int]int{ // and how many bytes are written
		math.MinInt: api.BlockSize, -1: api.BlockSize,
		0: 0, 1: 1, 2: 2, 100: 100, api.BlockSize - 1: api.BlockSize - 1,
		api.BlockSize: api.BlockSize, api.BlockSize + 1: api.BlockSize, math.MaxInt: api.BlockSize,
	}
	for torn, bytes := range torn {
		d := made(t, 3)
		writes(t, d, 0, mixed(0))
		writes(t, d, 1, mixed(1))
		syncs(t, d)
		writes(t, d, 0, mixed(2))
		writes(t, d, 1, mixed(3))
		fresh := d.Copy()

		d.Up([]bool{true, true}, torn)
		holds(t, d, 0, mixed(2))
		holds(t, d, 1, front(bytes, mixed(3), mixed(1)))

		d = fresh.Copy()
		d.Up([]bool{true, false}, torn) // the last write that survives is not the last one
		holds(t, d, 0, front(bytes, mixed(2), mixed(0)))
		holds(t, d, 1, mixed(1))

		d = fresh.Copy()
		writes(t, d, 2, mixed(4))
		d.Up([]bool{false, false, true, true}, torn) // over a block that was never written
		holds(t, d, 0, mixed(0))
		holds(t, d, 1, mixed(1))
		holds(t, d, 2, front(bytes, mixed(4), disk.Block{}))
	}
}

// P7.6: writes of one block are applied again in their order, and torn over the one before that survives.
func TestUpOfOneBlock(t *testing.T) {
	first, second, synced := mixed(1), mixed(2), mixed(3)
	cases := []struct {
		keep []bool
		torn int
		want disk.Block
	}{
		{[]bool{true, true}, -1, second},
		{[]bool{true, false}, -1, first},
		{[]bool{true}, -1, first},
		{[]bool{false, true}, -1, second},
		{[]bool{true, true}, 5, front(5, second, first)},
		{[]bool{true, true}, 0, first},
		{[]bool{true, false}, 5, front(5, first, synced)},
		{[]bool{true}, 0, synced},
		{[]bool{false, true}, 5, front(5, second, synced)},
		{[]bool{false, true}, 0, synced},
	}
	for _, c := range cases {
		d := made(t, 1)
		writes(t, d, 0, synced)
		syncs(t, d)
		writes(t, d, 0, first)
		writes(t, d, 0, second)
		d.Up(c.keep, c.torn)
		holds(t, d, 0, c.want)
		d.Up(nil, -1)
		holds(t, d, 0, c.want)
	}
}

// P7.6: what survived is durable, and no write is unsynced.
func TestUpSyncs(t *testing.T) {
	d := made(t, 2)
	writes(t, d, 0, mixed(1))
	writes(t, d, 1, mixed(2))
	d.Arm(0)
	answers(t, "Sync()", d.Sync(), api.ErrDown)
	isLoose(t, d, 2)
	d.Up([]bool{true, true}, 10)
	isDown(t, d, false)
	isLoose(t, d, 0)
	for range 2 {
		d.Up([]bool{true, true}, 3)
		holds(t, d, 0, mixed(1))
		holds(t, d, 1, front(10, mixed(2), disk.Block{}))
	}
}

// P7.6: Up while the disk is up is a power failure at once.
func TestUpWhileUp(t *testing.T) {
	d := made(t, 2)
	d.Up(nil, -1)
	d.Up([]bool{true}, 3)
	holds(t, d, 0, disk.Block{})
	writes(t, d, 0, mixed(1))
	syncs(t, d)
	writes(t, d, 0, mixed(2))
	writes(t, d, 1, mixed(3))
	isDown(t, d, false)
	d.Up([]bool{false, true}, 1)
	isDown(t, d, false)
	isLoose(t, d, 0)
	holds(t, d, 0, mixed(1))
	holds(t, d, 1, front(1, mixed(3), disk.Block{}))
}

// failure is a disk with writes before and after its last Sync, which were made at random.
type failure struct {
	d      *disk.Disk
	before []disk.Block // as the blocks were read before the failure
	synced []disk.Block // as they were read after the last Sync
	loose  []int        // the blocks of the unsynced writes
}

func fail(t *testing.T, blocks int, next func(below int) int) failure {
	f := failure{d: made(t, blocks), before: make([]disk.Block, blocks)}
	for range next(20) {
		n := next(blocks)
		f.before[n] = mixed(next(1000))
		writes(t, f.d, n, f.before[n])
	}
	syncs(t, f.d)
	f.synced = slices.Clone(f.before)
	for range next(8) {
		n := next(blocks)
		f.before[n] = mixed(next(1000))
		writes(t, f.d, n, f.before[n])
		f.loose = append(f.loose, n)
	}
	if next(2) == 0 {
		f.d.Arm(0)
		fails(t, f.d, next(2) == 0)
	}
	return f
}

// P7.8: if all unsynced writes survive, and none is torn, nothing is lost; if none survives, all is as after the last Sync;
// a block of which no unsynced write survives is as it was synced.
func TestConsequences(t *testing.T) {
	for seed := range int64(500) {
		next := below(seed)
		f := fail(t, 1+next(5), next)

		kept := f.d.Copy()
		kept.Up(all(len(f.loose)), -1)
		lost := f.d.Copy()
		lost.Up(nil, next(api.BlockSize))
		some, keep := f.d.Copy(), make([]bool, len(f.loose))
		touched := map[int]bool{}
		for i, n := range f.loose {
			keep[i] = next(2) == 0
			touched[n] = touched[n] || keep[i]
		}
		some.Up(keep, next(api.BlockSize+2)-1)
		for n := range f.before {
			holds(t, kept, n, f.before[n])
			holds(t, lost, n, f.synced[n])
			if !touched[n] {
				holds(t, some, n, f.synced[n])
			}
		}
	}
}
