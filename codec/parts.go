package codec

import (
	"strconv"

	"wapentake/sha"
)

// fields are the parts of a struct's encoding, read in their order. The first failure is kept, and all that is read behind it is zero.
type fields struct {
	parts [][]byte
	read  int // how many of them
	err   error
}

// open returns the fields of a struct's encoding, none of them read.
func open(b []byte) *fields {
	parts, ok := sha.Split(b)
	if !ok {
		return &fields{err: errSplit}
	}
	return &fields{parts: parts}
}

// next reads the next field.
func next[T any](f *fields, of func([]byte) (T, error)) T {
	var none T
	if f.err == nil && f.read == len(f.parts) {
		f.err = errFew
	}
	if f.err != nil {
		return none
	}
	x, err := of(f.parts[f.read])
	if err != nil {
		f.err = failPart(f.read, err)
		return none
	}
	f.read++
	return x
}

// done returns the struct that was read, and why it counts for nothing, if so.
func done[T any](f *fields, x T) (T, error) {
	if f.err == nil && f.read < len(f.parts) {
		f.err = errMore
	}
	return x, f.err
}

// listOf returns the function that decodes a list, by that of an element.
func listOf[T any](element func([]byte) (T, error)) func([]byte) ([]T, error) {
	return func(b []byte) ([]T, error) { return readList(b, element) }
}

// readList decodes a list, by the function that decodes an element.
func readList[T any](b []byte, element func([]byte) (T, error)) ([]T, error) {
	parts, ok := sha.Split(b)
	if !ok {
		return nil, errSplit
	}
	// The list grows with what is read: a short part may announce an element that is long in memory.
	var l []T
	for i, p := range parts {
		x, err := element(p)
		if err != nil {
			return nil, failPart(i, err)
		}
		l = append(l, x)
	}
	return l, nil
}

func failPart(i int, cause error) error {
	return fail("part "+strconv.Itoa(i), cause)
}
