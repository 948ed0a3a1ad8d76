package codec_test

import (
	"bytes"
	"encoding/binary"
	"math"
	"math/rand"
	"reflect"
	"slices"
	"testing"

	"wapentake/api"
)

// P2.2: no beginning of an encoding, and no end, is one.
func TestCut(t *testing.T) {
	forEach(t, func(t *testing.T, c coder) {
		for _, v := range []reflect.Value{reflect.Zero(c.of), counting(1).value(c.of)} {
			b := c.encode(v)
			for n := range len(b) {
				c.refuses(t, b[:n], api.ErrForm)
				c.refuses(t, b[n+1:], api.ErrForm)
				c.agrees(t, slices.Concat(b[:n], b[n+1:]))
			}
		}
		c.refuses(t, nil, api.ErrForm)
		c.refuses(t, []byte{}, api.ErrForm)
	})
}

// P2.2: nor is anything with more bytes before it, behind it or within it.
func TestLengthened(t *testing.T) {
	forEach(t, func(t *testing.T, c coder) {
		for _, v := range []reflect.Value{reflect.Zero(c.of), counting(1).value(c.of)} {
			b := c.encode(v)
			for _, more := range [][]byte{{0}, {1}, {255}, num(0), num(1), b} {
				c.refuses(t, slices.Concat(b, more), api.ErrForm)
				c.refuses(t, slices.Concat(more, b), api.ErrForm)
			}
			for n := range len(b) {
				for _, more := range [][]byte{{0}, {1}, num(0)} {
					c.agrees(t, slices.Concat(b[:n], more, b[n:]))
				}
			}
		}
	})
}

// P2.2: numbers, digests and bools of a wrong length, and bools that are neither 0 nor 1.
func TestWrongLeaves(t *testing.T) {
	forEach(t, func(t *testing.T, c coder) {
		root := grow(counting(1).value(c.of))
		root.each(func(leaf *tree) {
			right := leaf.bytes
			for _, wrong := range wrongLeaves(leaf) {
				leaf.bytes = wrong
				c.refuses(t, root.encode(), api.ErrForm)
			}
			leaf.bytes = right
		})
		c.accepts(t, root.encode(), counting(1).value(c.of))
	})
}

func wrongLeaves(leaf *tree) [][]byte {
	b := leaf.bytes
	others := [][]byte{nil, b[:len(b)/2], slices.Concat([]byte{0}, b), slices.Concat(b, []byte{0}), slices.Concat(b, b), make([]byte, 16), make([]byte, 256)}
	if len(b) > 0 {
		others = append(others, b[1:], b[:len(b)-1])
	}
	switch leaf.of.Kind() {
	case reflect.Int, reflect.Int64, reflect.Uint64:
		return append(others, dig(0), []byte{1}, make([]byte, 4))
	case reflect.Array:
		return append(others, num(0), make([]byte, 31), make([]byte, 33), make([]byte, 64))
	case reflect.Bool:
		return [][]byte{nil, {2}, {3}, {16}, {127}, {128}, {254}, {255}, {0, 0}, {0, 1}, {1, 0}, {1, 1}, num(0), num(1), dig(1)}
	}
	return nil
}

// P2.2: too few fields and too many, and bytes that are not joined at all.
func TestWrongFields(t *testing.T) {
	forEach(t, func(t *testing.T, c coder) {
		root := grow(counting(1).value(c.of))
		root.each(func(node *tree) {
			if node.of.Kind() != reflect.Struct {
				return
			}
			right := node.parts
			for i := range right {
				node.parts = slices.Delete(slices.Clone(right), i, i+1)
				c.refuses(t, root.encode(), api.ErrForm)
				node.parts = right[:i]
				c.refuses(t, root.encode(), api.ErrForm)
				node.parts = slices.Insert(slices.Clone(right), i, right[i])
				c.refuses(t, root.encode(), api.ErrForm)
			}
			for _, b := range strangeParts() {
				node.parts = append(slices.Clone(right), leafOf(b))
				c.refuses(t, root.encode(), api.ErrForm)
			}
			node.parts = right
			inPlaceOf(node, func() { c.refuses(t, root.encode(), api.ErrForm) }, nil, num(0), make([]byte, 7), make([]byte, 9), num(1), num(math.MaxUint64), []byte("x"))
		})
		c.accepts(t, root.encode(), counting(1).value(c.of))
	})
}

// P2.2: lists whose parts are not such things, and bytes that are no list.
func TestWrongLists(t *testing.T) {
	forEach(t, func(t *testing.T, c coder) {
		root := grow(counting(1).value(c.of))
		root.each(func(node *tree) {
			if node.of.Kind() != reflect.Slice || !joined(node.of) {
				return
			}
			right := node.parts
			for _, b := range strangeParts() {
				for i := range len(right) + 1 {
					node.parts = slices.Insert(slices.Clone(right), i, leafOf(b))
					c.refuses(t, root.encode(), api.ErrForm)
				}
				node.parts = []*tree{leafOf(b)}
				c.refuses(t, root.encode(), api.ErrForm)
			}
			node.parts = right
			inPlaceOf(node, func() { c.refuses(t, root.encode(), api.ErrForm) }, nil, make([]byte, 7), make([]byte, 9), num(1), num(math.MaxUint64), []byte("x"))
			node.parts = append(slices.Clone(right), right...)
			c.agrees(t, root.encode()) // one that is twice as long is right
			node.parts = right
		})
		c.accepts(t, root.encode(), counting(1).value(c.of))
	})
}

// strangeParts are bytes that nothing is encoded as but a byte slice.
func strangeParts() [][]byte {
	return [][]byte{nil, {1, 2}, make([]byte, 7), make([]byte, 9), dig(0)[:31], make([]byte, 33)}
}

// leafOf returns a tree that has these bytes.
func leafOf(b []byte) *tree {
	return &tree{of: reflect.TypeFor[[]byte](), bytes: b}
}

// inPlaceOf tries bytes where a node's encoding was.
func inPlaceOf(node *tree, try func(), others ...[]byte) {
	right := *node
	for _, b := range others {
		*node = *leafOf(b)
		try()
	}
	*node = right
}

// P2.2: a place for one type's encoding is not one for another's.
func TestOthersEncodings(t *testing.T) {
	forEach(t, func(t *testing.T, c coder) {
		for _, other := range coders() {
			for _, length := range []int{0, 1, 2} {
				c.agrees(t, counted(other, length))
				if other.name != c.name {
					c.refuses(t, counted(other, length), api.ErrForm)
				}
			}
		}
	})
}

func counted(c coder, length int) []byte {
	return reference(counting(length).value(c.of))
}

// P2.2, R1: counts and lengths that are wrong, up to 2^64 - 1.
func TestWrongCounts(t *testing.T) {
	forEach(t, func(t *testing.T, c coder) {
		root := grow(counting(1).value(c.of))
		b := root.encode()
		for _, place := range root.numberPlaces(0) {
			right := binary.BigEndian.Uint64(b[place:])
			for _, n := range []uint64{
				1 << 31, 1 << 32, 1<<32 + right, 1 << 60, 1<<60 + right, 1<<61 - 1, 1 << 61, 1<<61 + right,
				1<<63 - 1, 1 << 63, 1<<63 + right, math.MaxUint64 - 8, math.MaxUint64 - 7, math.MaxUint64 - 1, math.MaxUint64, -right - 8,
				api.MaxBytes, uint64(len(b)), uint64(len(b)) + 1,
			} {
				binary.BigEndian.PutUint64(b[place:], n)
				c.refuses(t, b, api.ErrForm)
			}
			for _, n := range []uint64{0, right - 8, right - 1, right + 1, right + 8} {
				binary.BigEndian.PutUint64(b[place:], n)
				c.agrees(t, b)
			}
			binary.BigEndian.PutUint64(b[place:], right)
		}
		c.accepts(t, b, counting(1).value(c.of))
		for _, n := range []uint64{1, 2, 1 << 31, 1 << 61, 1 << 63, math.MaxUint64} {
			c.refuses(t, num(n), api.ErrForm)
			c.refuses(t, slices.Concat(b[:8], num(n)), api.ErrForm)
		}
	})
}

// P2.2: encodings in which chance changes bytes.
func TestChangedBytes(t *testing.T) {
	forEach(t, func(t *testing.T, c coder) {
		random := rand.New(rand.NewSource(2))
		for range 3000 {
			b := bytes.Clone(counted(c, random.Intn(2)))
			for range 1 + random.Intn(3) {
				b[random.Intn(len(b))] = byte(random.Intn(5) - 2)
			}
			c.agrees(t, b)
		}
	})
}

func FuzzRead(f *testing.F) {
	for i, c := range coders() {
		f.Add(i, reference(reflect.Zero(c.of)))
		f.Add(i, counted(c, 1))
	}
	f.Fuzz(func(t *testing.T, i int, b []byte) {
		l := coders()
		l[uint(i)%uint(len(l))].agrees(t, b)
	})
}
