package codec_test

import (
	"bytes"
	"encoding/binary"
	"reflect"
	"slices"
)

// A second way from values to bytes and back, by the declarations in api alone: what the package does is held against it.

// num returns the encoding of a number.
func num(n uint64) []byte {
	return binary.BigEndian.AppendUint64(nil, n)
}

// join returns the joined encoding of parts.
func join(parts ...[]byte) []byte {
	b := num(uint64(len(parts)))
	for _, p := range parts {
		b = append(append(b, num(uint64(len(p)))...), p...)
	}
	return b
}

// split returns the parts of a joined encoding.
func split(b []byte) ([][]byte, bool) {
	if len(b) < 8 {
		return nil, false
	}
	count, b := binary.BigEndian.Uint64(b), b[8:]
	var parts [][]byte
	for uint64(len(parts)) < count {
		if len(b) < 8 {
			return nil, false
		}
		size := binary.BigEndian.Uint64(b)
		if b = b[8:]; size > uint64(len(b)) {
			return nil, false
		}
		parts, b = append(parts, b[:size]), b[size:]
	}
	return parts, len(b) == 0
}

// tree is an encoding before it is joined: a leaf has bytes, a list or a struct has parts.
type tree struct {
	of    reflect.Type
	bytes []byte
	parts []*tree
}

// joined tells whether a type's encoding is that of its parts.
func joined(of reflect.Type) bool {
	return of.Kind() == reflect.Struct || of.Kind() == reflect.Slice && of.Elem().Kind() != reflect.Uint8
}

// grow returns the tree of a value.
func grow(v reflect.Value) *tree {
	t := &tree{of: v.Type()}
	switch v.Kind() {
	case reflect.Int, reflect.Int64:
		t.bytes = num(uint64(v.Int()))
	case reflect.Uint64:
		t.bytes = num(v.Uint())
	case reflect.Bool:
		t.bytes = []byte{0}
		if v.Bool() {
			t.bytes = []byte{1}
		}
	case reflect.Array:
		for i := range v.Len() {
			t.bytes = append(t.bytes, byte(v.Index(i).Uint()))
		}
	case reflect.Struct:
		for i := range v.NumField() {
			t.parts = append(t.parts, grow(v.Field(i)))
		}
	case reflect.Slice:
		if !joined(v.Type()) {
			t.bytes = bytes.Clone(v.Bytes())
			break
		}
		for i := range v.Len() {
			t.parts = append(t.parts, grow(v.Index(i)))
		}
	default:
		panic("api has a " + v.Kind().String())
	}
	return t
}

// encode returns the bytes of a tree.
func (t *tree) encode() []byte {
	if !joined(t.of) {
		return t.bytes
	}
	parts := make([][]byte, len(t.parts))
	for i, p := range t.parts {
		parts[i] = p.encode()
	}
	return join(parts...)
}

// numberPlaces returns where, in the bytes of a tree that begin at a place, counts and lengths stand.
func (t *tree) numberPlaces(at int) []int {
	if !joined(t.of) {
		return nil
	}
	places := []int{at}
	at += 8
	for _, p := range t.parts {
		places = append(places, at)
		at += 8
		places = append(places, p.numberPlaces(at)...)
		at += len(p.encode())
	}
	return places
}

// each calls a function for the tree and all that is in it.
func (t *tree) each(visit func(*tree)) {
	visit(t)
	for _, p := range t.parts {
		p.each(visit)
	}
}

// reference returns the encoding of a value.
func reference(v reflect.Value) []byte {
	return grow(v).encode()
}

// same tells whether two values are the same; an empty list may be nil or not.
func same(a, b reflect.Value) bool {
	return a.Type() == b.Type() && bytes.Equal(reference(a), reference(b))
}

// referenceRead returns the value of a type whose encoding is b.
func referenceRead(of reflect.Type, b []byte) (reflect.Value, bool) {
	v := reflect.New(of).Elem()
	return v, readInto(v, b)
}

func readInto(v reflect.Value, b []byte) bool {
	switch v.Kind() {
	case reflect.Int, reflect.Int64:
		if len(b) != 8 || v.OverflowInt(int64(binary.BigEndian.Uint64(b))) {
			return false
		}
		v.SetInt(int64(binary.BigEndian.Uint64(b)))
	case reflect.Uint64:
		if len(b) != 8 {
			return false
		}
		v.SetUint(binary.BigEndian.Uint64(b))
	case reflect.Bool:
		v.SetBool(slices.Equal(b, []byte{1}))
		return v.Bool() || slices.Equal(b, []byte{0})
	case reflect.Array:
		return reflect.Copy(v, reflect.ValueOf(b)) == v.Len() && len(b) == v.Len()
	case reflect.Struct:
		parts, ok := split(b)
		if !ok || len(parts) != v.NumField() {
			return false
		}
		for i, p := range parts {
			if !readInto(v.Field(i), p) {
				return false
			}
		}
	case reflect.Slice:
		return readListInto(v, b)
	}
	return true
}

func readListInto(v reflect.Value, b []byte) bool {
	if !joined(v.Type()) {
		v.SetBytes(bytes.Clone(b))
		return true
	}
	parts, ok := split(b)
	for _, p := range parts {
		x, fits := referenceRead(v.Type().Elem(), p)
		if !fits {
			return false
		}
		v.Set(reflect.Append(v, x))
	}
	return ok
}

// span is a piece of memory, from an address to another.
type span struct{ from, to uintptr }

// spans returns the memory of all lists of a value, with the room behind them.
func spans(v reflect.Value) []span {
	var l []span
	switch v.Kind() {
	case reflect.Struct:
		for i := range v.NumField() {
			l = append(l, spans(v.Field(i))...)
		}
	case reflect.Slice:
		if v.Cap() > 0 {
			l = append(l, span{v.Pointer(), v.Pointer() + uintptr(v.Cap())*v.Type().Elem().Size()})
		}
		for i := range v.Len() {
			l = append(l, spans(v.Index(i))...)
		}
	}
	return l
}

// apart tells whether no two of the pieces share memory.
func apart(l ...span) bool {
	slices.SortFunc(l, func(a, b span) int {
		if a.from < b.from {
			return -1
		}
		return 1
	})
	for i := 1; i < len(l); i++ {
		if l[i].from < l[i-1].to {
			return false
		}
	}
	return true
}
