package codec_test

import (
	"bytes"
	"math/rand"
	"reflect"
	"testing"

	"wapentake/api"
	"wapentake/codec"
)

// coder is one of the ten types, with its functions.
type coder struct {
	name   string
	of     reflect.Type
	encode func(reflect.Value) []byte
	decode func([]byte) (reflect.Value, api.Errno)
}

func coderOf[T any](name string, encode func(T) []byte, decode func([]byte) (T, api.Errno)) coder {
	return coder{
		name, reflect.TypeFor[T](),
		func(v reflect.Value) []byte { return encode(v.Interface().(T)) },
		func(b []byte) (reflect.Value, api.Errno) {
			x, e := decode(b)
			return reflect.ValueOf(&x).Elem(), e
		},
	}
}

func coders() []coder {
	return []coder{
		coderOf("Header", codec.Header, codec.ReadHeader),
		coderOf("QC", codec.QC, codec.ReadQC),
		coderOf("Commit", codec.Commit, codec.ReadCommit),
		coderOf("Fact", codec.Fact, codec.ReadFact),
		coderOf("Record", codec.Record, codec.ReadRecord),
		coderOf("Tx", codec.Tx, codec.ReadTx),
		coderOf("Block", codec.Block, codec.ReadBlock),
		coderOf("Vote", codec.Vote, codec.ReadVote),
		coderOf("Timeout", codec.Timeout, codec.ReadTimeout),
		coderOf("Message", codec.Message, codec.ReadMessage),
	}
}

// forEach runs a test of each of the ten types.
func forEach(t *testing.T, test func(*testing.T, coder)) {
	for _, c := range coders() {
		t.Run(c.name, func(t *testing.T) { test(t, c) })
	}
}

// filler says what values are made of.
type filler struct {
	number func() uint64
	length func() int
}

func (f filler) fill(v reflect.Value) {
	switch v.Kind() {
	case reflect.Int, reflect.Int64:
		v.SetInt(int64(f.number()))
	case reflect.Uint64, reflect.Uint8:
		v.SetUint(f.number())
	case reflect.Bool:
		v.SetBool(f.number()%2 == 1)
	case reflect.Array:
		for i := range v.Len() {
			f.fill(v.Index(i))
		}
	case reflect.Struct:
		for i := range v.NumField() {
			f.fill(v.Field(i))
		}
	case reflect.Slice:
		n := f.length()
		v.Set(reflect.MakeSlice(v.Type(), n, n))
		for i := range n {
			f.fill(v.Index(i))
		}
	}
}

func (f filler) value(of reflect.Type) reflect.Value {
	v := reflect.New(of).Elem()
	f.fill(v)
	return v
}

// always is a filler with the same number and the same length everywhere.
func always(number uint64, length int) filler {
	return filler{func() uint64 { return number }, func() int { return length }}
}

// counting is a filler with numbers that go up from place to place, and with lists of a length.
func counting(length int) filler {
	n := uint64(0)
	return filler{func() uint64 { n++; return n }, func() int { return length }}
}

func randomly(random *rand.Rand) filler {
	edges := []uint64{0, 1, 2, 255, 256, 1<<31 - 1, 1 << 31, 1 << 32, 1<<63 - 1, 1 << 63, 1<<64 - 2, 1<<64 - 1}
	return filler{
		func() uint64 {
			if random.Intn(2) == 0 {
				return edges[random.Intn(len(edges))]
			}
			return random.Uint64()
		},
		func() int { return random.Intn(3) },
	}
}

// samples are values of a type: the zero value and one with empty lists that are not nil, ordinary ones, those with the least and the greatest numbers, and what chance brings.
func samples(of reflect.Type) []reflect.Value {
	l := []reflect.Value{
		reflect.Zero(of), always(0, 0).value(of), always(0, 2).value(of),
		counting(0).value(of), counting(1).value(of), counting(2).value(of),
	}
	for _, n := range []uint64{1, 1<<31 - 1, 1 << 31, 1 << 32, 1<<63 - 1, 1 << 63, 1<<64 - 1} {
		l = append(l, always(n, 1).value(of))
	}
	random := rand.New(rand.NewSource(1))
	for range 40 {
		l = append(l, randomly(random).value(of))
	}
	return l
}

// accepts tells of bytes that are not decoded as a value.
func (c coder) accepts(t *testing.T, b []byte, want reflect.Value) {
	t.Helper()
	x, e := c.decode(b)
	if e != api.OK || !same(x, want) {
		t.Errorf("Read%s of %d bytes: %v, error %d, want %v", c.name, len(b), x, e, want)
	}
}

// refuses tells of bytes that are not answered by an error and the zero value, or that are changed.
func (c coder) refuses(t *testing.T, b []byte, want api.Errno) {
	t.Helper()
	before := bytes.Clone(b)
	x, e := c.decode(b)
	if e != want || !same(x, reflect.Zero(c.of)) {
		t.Errorf("Read%s of %d bytes %x: %v, error %d, want error %d", c.name, len(b), short(before), x, e, want)
	}
	if !bytes.Equal(b, before) {
		t.Errorf("Read%s of %d bytes %x: they were changed", c.name, len(b), short(before))
	}
}

// agrees tells of bytes that are answered otherwise than the reference does.
func (c coder) agrees(t *testing.T, b []byte) {
	t.Helper()
	if len(b) > api.MaxBytes {
		c.refuses(t, b, api.ErrBytes)
	} else if want, ok := referenceRead(c.of, b); ok {
		c.accepts(t, b, want)
	} else {
		c.refuses(t, b, api.ErrForm)
	}
}

// short is the beginning of bytes.
func short(b []byte) []byte {
	return b[:min(len(b), 300)]
}
