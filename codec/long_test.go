package codec_test

import (
	"bytes"
	"reflect"
	"testing"

	"wapentake/api"
)

// P2.2: ErrBytes for more than MaxBytes bytes, whatever they are; ErrForm for MaxBytes of them that are no encoding.
func TestMaxBytes(t *testing.T) {
	forEach(t, func(t *testing.T, c coder) {
		for _, v := range []reflect.Value{reflect.Zero(c.of), counting(1).value(c.of)} {
			b := append(c.encode(v), make([]byte, 2*api.MaxBytes)...)
			c.refuses(t, b[:api.MaxBytes-1], api.ErrForm)
			c.refuses(t, b[:api.MaxBytes], api.ErrForm)
			c.refuses(t, b[:api.MaxBytes+1], api.ErrBytes)
			c.refuses(t, b[:api.MaxBytes+2], api.ErrBytes)
			c.refuses(t, b, api.ErrBytes)
		}
		c.refuses(t, make([]byte, api.MaxBytes), api.ErrForm)
		c.refuses(t, make([]byte, api.MaxBytes+1), api.ErrBytes)
		c.refuses(t, bytes.Repeat([]byte{255}, api.MaxBytes), api.ErrForm)
		c.refuses(t, bytes.Repeat([]byte{255}, api.MaxBytes+1), api.ErrBytes)
	})
}

// P2.1, P2.2, P2.3: encodings of just MaxBytes bytes and, where a type has them, of one more. The lengths of some types' encodings are multiples of 8, and those of a Record leave the remainder 8 with 16.
func TestEncodingsOfMaxBytes(t *testing.T) {
	fits, beyond := api.MaxBytes, api.MaxBytes+8
	checkLength(t, "QC", qcOf(fits), fits)
	checkLength(t, "QC", qcOf(beyond), beyond)
	checkLength(t, "Commit", commitOf(fits), fits)
	checkLength(t, "Commit", commitOf(beyond), beyond)
	checkLength(t, "Timeout", timeoutOf(fits), fits)
	checkLength(t, "Timeout", timeoutOf(beyond), beyond)
	for _, n := range []int{fits - 8, beyond} {
		checkLength(t, "Record", api.Record{Members: make([]int, (n-lengthOf(api.Record{}))/16)}, n)
		checkLength(t, "Record", api.Record{Seats: make([][]int, (n-lengthOf(api.Record{}))/16)}, n)
	}
	for _, n := range []int{fits - 1, fits, fits + 1, fits + 2} {
		fact := func(room int) api.Fact { return api.Fact{Value: make([]byte, room)} }
		tx := func(room int) api.Tx { return api.Tx{Facts: []api.Fact{fact(room)}} }
		block := func(room int) api.Block { return api.Block{Txs: []api.Tx{tx(room)}} }
		message := func(room int) api.Message { return api.Message{Blocks: []api.Block{block(room)}} }
		checkLength(t, "Fact", fact(n-lengthOf(fact(0))), n)
		checkLength(t, "Tx", tx(n-lengthOf(tx(0))), n)
		checkLength(t, "Block", block(n-lengthOf(block(0))), n)
		checkLength(t, "Message", message(n-lengthOf(message(0))), n)
	}
}

func lengthOf(x any) int {
	return len(reference(reflect.ValueOf(x)))
}

// qcOf returns a certificate with an encoding of n bytes, a multiple of 8.
func qcOf(n int) api.QC {
	x := api.QC{Sigs: make([]api.Sig, 2)}
	if (n-lengthOf(x))%16 != 0 {
		x.Sigs = append(x.Sigs, api.Sig{Index: -1})
	}
	x.Signers = make([]int, (n-lengthOf(x))/16)
	return x
}

func commitOf(n int) api.Commit {
	x := api.Commit{Path: make([]api.Header, 100)}
	x.QC = qcOf(n - lengthOf(x) + lengthOf(api.QC{}))
	return x
}

func timeoutOf(n int) api.Timeout {
	return api.Timeout{High: qcOf(n - lengthOf(api.Timeout{}) + lengthOf(api.QC{}))}
}

// checkLength tells of a value whose encoding has not so many bytes, or is not read as the value if it fits, or is read if it does not.
func checkLength(t *testing.T, name string, x any, n int) {
	t.Helper()
	for _, c := range coders() {
		if c.name != name {
			continue
		}
		v := reflect.ValueOf(x)
		b := c.encode(v)
		if len(b) != n || !bytes.Equal(b, reference(v)) {
			t.Errorf("%s: %d bytes, want %d", name, len(b), n)
		}
		if n > api.MaxBytes {
			c.refuses(t, b, api.ErrBytes)
			continue
		}
		y, e := c.decode(b)
		if e != api.OK || !same(y, v) || !bytes.Equal(c.encode(y), b) {
			t.Errorf("Read%s of %d bytes: error %d", name, n, e)
		}
	}
}
