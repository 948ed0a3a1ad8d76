package codec_test

import (
	"bytes"
	"reflect"
	"slices"
	"testing"

	"wapentake/api"
)

// roomy returns a copy of a value with room behind each list, in which all is zero.
func roomy(v reflect.Value) reflect.Value {
	c := reflect.New(v.Type()).Elem()
	c.Set(v)
	switch v.Kind() {
	case reflect.Struct:
		for i := range v.NumField() {
			c.Field(i).Set(roomy(v.Field(i)))
		}
	case reflect.Slice:
		c.Set(reflect.MakeSlice(v.Type(), v.Len(), v.Len()+3))
		for i := range v.Len() {
			c.Index(i).Set(roomy(v.Index(i)))
		}
	}
	return c
}

// clean tells whether all is zero still in the room behind each list.
func clean(v reflect.Value) bool {
	switch v.Kind() {
	case reflect.Struct:
		for i := range v.NumField() {
			if !clean(v.Field(i)) {
				return false
			}
		}
	case reflect.Slice:
		for i := range v.Len() {
			if !clean(v.Index(i)) {
				return false
			}
		}
		for i := v.Len(); i < v.Cap(); i++ {
			if !v.Slice(0, v.Cap()).Index(i).IsZero() {
				return false
			}
		}
	}
	return true
}

// spoil changes all that a value's lists hold.
func spoil(v reflect.Value) {
	switch v.Kind() {
	case reflect.Struct:
		for i := range v.NumField() {
			spoil(v.Field(i))
		}
	case reflect.Slice:
		for i := range v.Len() {
			spoil(v.Index(i))
			v.Index(i).SetZero()
		}
	}
}

// R3: an encoding shares no memory with its value, which is not changed, and may be changed afterwards.
func TestEncodeSharesNoMemory(t *testing.T) {
	forEach(t, func(t *testing.T, c coder) {
		for _, v := range samples(c.of) {
			v = roomy(v)
			want := reference(v)
			b := c.encode(v)
			if !bytes.Equal(reference(v), want) || !clean(v) {
				t.Fatalf("%s changed its argument", c.name)
			}
			if !apart(slices.Concat(spans(v), spans(reflect.ValueOf(b)))...) {
				t.Fatalf("%s shares memory with its argument", c.name)
			}
			again := c.encode(v)
			if !bytes.Equal(again, want) || !apart(slices.Concat(spans(reflect.ValueOf(b)), spans(reflect.ValueOf(again)))...) {
				t.Fatalf("%s: the second call has another result, or shares memory with the first (R4)", c.name)
			}
			clear(again[:cap(again)])
			if !bytes.Equal(reference(v), want) {
				t.Fatalf("%s: the argument changed with the result", c.name)
			}
			spoil(v)
			if !bytes.Equal(b, want) {
				t.Fatalf("%s: the result changed with the argument", c.name)
			}
		}
	})
}

// R3: what is read shares no memory with the bytes, nor list with list; the bytes are not changed, and may be changed afterwards.
func TestReadSharesNoMemory(t *testing.T) {
	forEach(t, func(t *testing.T, c coder) {
		for _, v := range samples(c.of) {
			want := reference(v)
			whole := slices.Concat(want, []byte("behind"))
			x, e := c.decode(whole[:len(want)])
			y, again := c.decode(whole[:len(want)])
			if e != api.OK || again != api.OK || !same(x, v) || !same(y, v) {
				t.Fatalf("Read%s of %x: errors %d, %d", c.name, short(want), e, again)
			}
			if !bytes.Equal(whole, slices.Concat(want, []byte("behind"))) {
				t.Fatalf("Read%s changed its argument", c.name)
			}
			if !apart(slices.Concat(spans(x), spans(y), spans(reflect.ValueOf(whole)))...) {
				t.Fatalf("Read%s: lists share memory", c.name)
			}
			clear(whole)
			if !same(x, v) {
				t.Fatalf("Read%s: the result changed with the argument", c.name)
			}
			spoil(x)
			if !same(y, v) {
				t.Fatalf("Read%s: a result changed with another one (R4)", c.name)
			}
		}
	})
}
