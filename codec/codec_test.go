package codec_test

import (
	"bytes"
	"math"
	"reflect"
	"testing"

	"wapentake/api"
	"wapentake/codec"
)

// digest returns the digest whose bytes are all n.
func digest(n byte) api.Digest {
	return api.Digest(bytes.Repeat([]byte{n}, 32))
}

func dig(n byte) []byte {
	return bytes.Repeat([]byte{n}, 32)
}

// layouts are values, and their encodings written by hand.
func layouts() []struct {
	name      string
	got, want []byte
} {
	sig, sigBytes := api.Sig{Index: 51, Tag: digest(52)}, join(num(51), dig(52))
	header := api.Header{Chain: 1, Epoch: 2, Height: 3, View: 4, Parent: digest(5), Txs: digest(6), Root: digest(7), Proposer: 8}
	headerBytes := join(num(1), num(2), num(3), num(4), dig(5), dig(6), dig(7), num(8))
	qc := api.QC{Chain: 11, Epoch: 12, View: 13, Block: digest(14), Signers: []int{15, 16}, Sigs: []api.Sig{sig, {}}}
	qcBytes := join(num(11), num(12), num(13), dig(14), join(num(15), num(16)), join(sigBytes, join(num(0), dig(0))))
	commit := api.Commit{Path: []api.Header{header, header}, QC: qc}
	commitBytes := join(join(headerBytes, headerBytes), qcBytes)
	fact := api.Fact{Commit: commit, Key: digest(21), Value: []byte("value"), Absent: true, Proof: []byte("proof")}
	factBytes := join(commitBytes, dig(21), []byte("value"), []byte{1}, []byte("proof"))
	record := api.Record{Epoch: 22, Members: []int{23, 24}, Seats: [][]int{{25, 26}, nil, {27}}}
	recordBytes := join(num(22), join(num(23), num(24)), join(join(num(25), num(26)), join(), join(num(27))))
	tx := api.Tx{Kind: 31, From: 32, To: 33, Amount: 34, Nonce: 35, Dst: 36, Deadline: 37, Id: digest(38), Member: 39, Facts: []api.Fact{fact}}
	txBytes := join(num(31), num(32), num(33), num(34), num(35), num(36), num(37), dig(38), num(39), join(factBytes))
	block := api.Block{Header: header, Justify: qc, Handover: []api.Commit{commit}, Txs: []api.Tx{tx, tx}, Sig: sig}
	blockBytes := join(headerBytes, qcBytes, join(commitBytes), join(txBytes, txBytes), sigBytes)
	vote := api.Vote{Chain: 41, Epoch: 42, View: 43, Block: digest(44), Signer: 45, Sig: sig}
	voteBytes := join(num(41), num(42), num(43), dig(44), num(45), sigBytes)
	timeout := api.Timeout{Chain: 61, Epoch: 62, View: 63, High: qc, Signer: 64, Sig: sig}
	timeoutBytes := join(num(61), num(62), num(63), qcBytes, num(64), sigBytes)
	message := api.Message{
		Kind: 71, Chain: 72, Height: 73, Digest: digest(74), Blocks: []api.Block{block}, Votes: []api.Vote{vote, vote},
		Timeouts: []api.Timeout{timeout}, Commits: []api.Commit{commit}, Txs: []api.Tx{tx},
	}
	messageBytes := join(num(71), num(72), num(73), dig(74), join(blockBytes), join(voteBytes, voteBytes), join(timeoutBytes), join(commitBytes), join(txBytes))
	return []struct {
		name      string
		got, want []byte
	}{
		{"Header", codec.Header(header), headerBytes}, {"QC", codec.QC(qc), qcBytes},
		{"Commit", codec.Commit(commit), commitBytes}, {"Fact", codec.Fact(fact), factBytes},
		{"Record", codec.Record(record), recordBytes}, {"Tx", codec.Tx(tx), txBytes},
		{"Block", codec.Block(block), blockBytes}, {"Vote", codec.Vote(vote), voteBytes},
		{"Timeout", codec.Timeout(timeout), timeoutBytes}, {"Message", codec.Message(message), messageBytes},
	}
}

// P2.1: the fields' parts, in the order of their declaration.
func TestLayouts(t *testing.T) {
	for _, c := range layouts() {
		if !bytes.Equal(c.got, c.want) {
			t.Errorf("%s:\n%x, want\n%x", c.name, c.got, c.want)
		}
	}
}

// The chapter's table of examples.
func TestExamples(t *testing.T) {
	zeros := func(n int) string { return string(make([]byte, n)) }
	zeroSig := zeros(7) + "\x02" + zeros(7) + "\x08" + zeros(8) + zeros(7) + "\x20" + zeros(32)
	zeroRecord := zeros(7) + "\x03" + zeros(7) + "\x08" + zeros(8) + zeros(7) + "\x08" + zeros(8) + zeros(7) + "\x08" + zeros(8)
	vote := string(codec.Vote(api.Vote{}))
	if want := zeros(7) + "\x40" + zeroSig; vote[len(vote)-len(want):] != want {
		t.Errorf("the zero Sig is not at the end of the zero Vote: %x", vote)
	}
	if b := codec.Record(api.Record{}); string(b) != zeroRecord {
		t.Errorf("the zero Record: %x", b)
	}
	if x, e := codec.ReadRecord([]byte(zeroRecord)); e != api.OK || x.Epoch != 0 || len(x.Members) != 0 || len(x.Seats) != 0 {
		t.Errorf("the zero Record is read as %v, error %d", x, e)
	}
	for _, n := range []int{8, 9} {
		if x, e := codec.ReadRecord(make([]byte, n)); e != api.ErrForm || !reflect.DeepEqual(x, api.Record{}) {
			t.Errorf("ReadRecord of %d zero bytes: %v, error %d", n, x, e)
		}
	}
}

// P2.1: two's complement, big-endian, and what the kinds of fields are encoded as.
func TestNumbers(t *testing.T) {
	for _, c := range []struct {
		n    int64
		want string
	}{
		{0, "\x00\x00\x00\x00\x00\x00\x00\x00"}, {1, "\x00\x00\x00\x00\x00\x00\x00\x01"},
		{-1, "\xff\xff\xff\xff\xff\xff\xff\xff"}, {-2, "\xff\xff\xff\xff\xff\xff\xff\xfe"},
		{0x0123456789abcdef, "\x01\x23\x45\x67\x89\xab\xcd\xef"},
		{math.MaxInt64, "\x7f\xff\xff\xff\xff\xff\xff\xff"}, {math.MinInt64, "\x80\x00\x00\x00\x00\x00\x00\x00"},
	} {
		tx := codec.Tx(api.Tx{Deadline: c.n})
		if parts, _ := split(tx); string(parts[6]) != c.want {
			t.Errorf("the deadline %d: %x", c.n, parts[6])
		}
		if x, e := codec.ReadTx(tx); e != api.OK || x.Deadline != c.n {
			t.Errorf("the deadline %d is read as %d, error %d", c.n, x.Deadline, e)
		}
		amount := codec.Tx(api.Tx{Amount: uint64(c.n)})
		if parts, _ := split(amount); string(parts[3]) != c.want {
			t.Errorf("the amount %d: %x", uint64(c.n), parts[3])
		}
		if x, e := codec.ReadTx(amount); e != api.OK || x.Amount != uint64(c.n) {
			t.Errorf("the amount %d is read as %d, error %d", uint64(c.n), x.Amount, e)
		}
	}
}

// P2.1, P2.2, P2.3: encodings are those of the declarations in api, and are read as the values they are of.
func TestSamples(t *testing.T) {
	forEach(t, func(t *testing.T, c coder) {
		for _, v := range samples(c.of) {
			b := c.encode(v)
			if !bytes.Equal(b, reference(v)) {
				t.Fatalf("%s of %v: %x, want %x", c.name, v, b, reference(v))
			}
			c.accepts(t, b, v)
			if x, _ := c.decode(b); !bytes.Equal(c.encode(x), b) {
				t.Fatalf("%s of Read%s of %x differs", c.name, c.name, b)
			}
		}
	})
}

// P2.3: values that differ in one place alone have different encodings.
func TestDifferentValues(t *testing.T) {
	forEach(t, func(t *testing.T, c coder) {
		first := counting(2).value(c.of)
		seen := map[string]bool{string(c.encode(first)): true}
		for i := range places(first) {
			v := counting(2).value(c.of)
			change(places(v)[i])
			b := string(c.encode(v))
			if seen[b] {
				t.Errorf("place %d: %v has the encoding of another value", i, v)
			}
			seen[b] = true
		}
	})
}

// places returns all that a value has in it, but for structs.
func places(v reflect.Value) []reflect.Value {
	var l []reflect.Value
	switch v.Kind() {
	case reflect.Struct:
		for i := range v.NumField() {
			l = append(l, places(v.Field(i))...)
		}
		return l
	case reflect.Slice:
		for i := range v.Len() {
			l = append(l, places(v.Index(i))...)
		}
	}
	return append(l, v)
}

// change makes a number, a digest, a bool or a list another one.
func change(v reflect.Value) {
	switch v.Kind() {
	case reflect.Int, reflect.Int64:
		v.SetInt(-v.Int() - 1)
	case reflect.Uint64, reflect.Uint8:
		v.SetUint(v.Uint() + 128)
	case reflect.Bool:
		v.SetBool(!v.Bool())
	case reflect.Array:
		change(v.Index(v.Len() - 1))
	case reflect.Slice:
		v.SetLen(v.Len() - 1)
	}
}
