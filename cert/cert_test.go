package cert_test

import (
	"encoding/hex"
	"math"
	"testing"

	"wapentake/api"
	"wapentake/cert"
	"wapentake/codec"
	"wapentake/merkle"
)

// mark returns a digest with a first and a last byte.
func mark(first, last byte) api.Digest {
	d := api.Digest{first}
	d[31] = last
	return d
}

// headers are the zero one, one with unlike fields, and one with negative, least and greatest ones.
func headers() []api.Header {
	all := api.Digest{}
	for i := range all {
		all[i] = 255
	}
	return []api.Header{
		{},
		{Chain: 1, Epoch: 2, Height: 3, View: 4, Parent: mark(5, 0), Txs: mark(6, 0), Root: mark(7, 0), Proposer: 8},
		{Chain: -1, Epoch: -2, Height: math.MinInt64, View: math.MaxInt64, Parent: all, Root: mark(1, 1), Proposer: 11},
	}
}

// P6.1: digests and texts of headers that another program worked out.
func TestKnownDigests(t *testing.T) {
	propose := "00000000000000020000000000000007" + "70726f706f7365" + "0000000000000020"
	for i, want := range []string{
		"1c799d7aa9981bbd0f22718fe84b19f88e3be1ba43c961dc2a8aec73c04f0474",
		"23738efccb3e0c27c14eb74bb185d53f04c0b1e5fe8e5ef0f5d125ad6b1662b4",
		"bba371da032113ddfc82019f48522c981e21b713d81e5537ace82c479d256853",
	} {
		h := headers()[i]
		d := cert.Digest(h)
		if hex.EncodeToString(d[:]) != want {
			t.Errorf("Digest(%v): %x", h, d)
		}
		if text := cert.ProposeText(h); hex.EncodeToString(text) != propose+want {
			t.Errorf("ProposeText(%v): %x", h, text)
		}
	}
}

// P6.1: texts of votes and timeouts that another program worked out.
func TestKnownTexts(t *testing.T) {
	vote, timeout := "00000000000000050000000000000004"+"766f7465", "00000000000000050000000000000007"+"74696d656f7574"
	n := func(x string) string { return "0000000000000008" + x }
	for _, c := range []struct {
		text []byte
		want string
	}{
		{cert.VoteText(api.Vote{Chain: 1, Epoch: 2, View: 258, Block: mark(9, 1), Signer: 5, Sig: api.Sig{Index: 6}}),
			vote + n("0000000000000001") + n("0000000000000002") + n("0000000000000102") + "0000000000000020" + hexOf(mark(9, 1))},
		{cert.VoteText(api.Vote{Chain: -1, View: math.MinInt64}),
			vote + n("ffffffffffffffff") + n("0000000000000000") + n("8000000000000000") + "0000000000000020" + hexOf(api.Digest{})},
		{cert.TimeoutText(api.Timeout{Chain: 3, Epoch: 1 << 20, View: 1 << 40, High: api.QC{Chain: 1, Epoch: 2, View: 7, Block: mark(1, 1)}, Signer: 5}),
			timeout + n("0000000000000003") + n("0000000000100000") + n("0000010000000000") + n("0000000000000007")},
		{cert.TimeoutText(api.Timeout{Epoch: -2, View: math.MaxInt64, High: api.QC{View: -1}}),
			timeout + n("0000000000000000") + n("fffffffffffffffe") + n("7fffffffffffffff") + n("ffffffffffffffff")},
	} {
		if hex.EncodeToString(c.text) != c.want {
			t.Errorf("%x, want %s", c.text, c.want)
		}
	}
}

func hexOf(d api.Digest) string { return hex.EncodeToString(d[:]) }

// txs are three unlike transactions.
func txs() []api.Tx {
	commit := api.Commit{
		Path: []api.Header{headers()[1], headers()[2]},
		QC:   api.QC{Chain: 1, Epoch: 2, View: 4, Block: mark(1, 0), Signers: []int{0, 2}, Sigs: []api.Sig{{Index: 5, Tag: mark(1, 0)}, {Index: 6, Tag: mark(2, 0)}}},
	}
	return []api.Tx{
		{Kind: api.TxPay, From: 1, To: 2, Amount: 5},
		{Kind: api.TxCredit, To: 4, Amount: 5, Dst: 2, Deadline: 9, Id: mark(3, 3),
			Facts: []api.Fact{{Commit: commit, Key: mark(8, 0), Value: []byte("ab"), Absent: true, Proof: []byte("p")}}},
		{Kind: api.TxJoin, From: math.MaxUint64, Amount: 1 << 62, Nonce: 1, Dst: -1, Deadline: -9, Member: 11},
	}
}

// P6.1: roots of transactions that another program worked out.
func TestKnownTxs(t *testing.T) {
	l := txs()
	for _, c := range []struct {
		l    []api.Tx
		want string
	}{
		{nil, "905dc6c7bd1f55fd6c699025f9b2ca1e28881ef71de7f0ecd75ba7ae4dc8271b"},
		{[]api.Tx{}, "905dc6c7bd1f55fd6c699025f9b2ca1e28881ef71de7f0ecd75ba7ae4dc8271b"},
		{l[:1], "165e365d5b22c3add845f9cc711ad895759569d65e3ab94a7068030ebfd3b0fd"},
		{l[:2], "3833153b9ae7a720f404ffd9994518ce0081e4e5ac1c5c2b635f558676001d0a"},
		{[]api.Tx{l[1], l[0]}, "56d92103ddb0f71ef97baf974332987785a93abcc5b133f8bba4dfda5ab7d52a"},
		{l, "829a3b1c4f6fb1b09e178234738edd22f54862172247224886deba893c02aece"},
		{[]api.Tx{l[0], l[0], l[0], l[0], l[2]}, "c3dfbfc7946854821d5b9f4f3165d32c67063e8540f21b19cfe5919d0733aea8"},
	} {
		if got := hexOf(cert.Txs(c.l)); got != c.want {
			t.Errorf("Txs of %d: %s, want %s", len(c.l), got, c.want)
		}
	}
}

// P6.1: the root of transactions is that of their encodings, of many as well.
func TestTxsAreEncoded(t *testing.T) {
	var l []api.Tx
	var encodings [][]byte
	for i := range 40 {
		if cert.Txs(l) != merkle.Root(encodings) {
			t.Fatalf("Txs of %d is not the root of their encodings", i)
		}
		tx := txs()[i%3]
		tx.Nonce = uint64(i)
		l, encodings = append(l, tx), append(encodings, codec.Tx(tx))
	}
}

// P6.1: what is not in a text changes nothing in it, and each field that is in it changes it.
func TestWhatTextsTell(t *testing.T) {
	h := headers()[1]
	seen := map[string]bool{string(cert.ProposeText(h)): true}
	for _, change := range []func(h *api.Header){
		func(h *api.Header) { h.Chain++ }, func(h *api.Header) { h.Epoch++ }, func(h *api.Header) { h.Height++ }, func(h *api.Header) { h.View++ },
		func(h *api.Header) { h.Parent[31]++ }, func(h *api.Header) { h.Txs[31]++ }, func(h *api.Header) { h.Root[31]++ }, func(h *api.Header) { h.Proposer++ },
		func(h *api.Header) { h.Chain, h.Epoch = h.Epoch, h.Chain }, func(h *api.Header) { h.Txs, h.Root = h.Root, h.Txs },
	} {
		other := h
		change(&other)
		if text := string(cert.ProposeText(other)); seen[text] || text != proposeText(other) || cert.Digest(other) != digest(other) {
			t.Errorf("%v: %q", other, text)
		} else {
			seen[text] = true
		}
	}
	v := api.Vote{Chain: 1, Epoch: 2, View: 3, Block: mark(4, 4)}
	w := v
	w.Signer, w.Sig = 9, api.Sig{Index: 9, Tag: mark(9, 9)}
	if string(cert.VoteText(v)) != string(cert.VoteText(w)) || string(cert.VoteText(v)) != textOf(v) {
		t.Error("a vote's text tells of its signer")
	}
	a := api.Timeout{Chain: 1, Epoch: 2, View: 3, High: api.QC{View: 4}}
	b := a
	b.Signer, b.Sig, b.High = 9, w.Sig, api.QC{Chain: 9, Epoch: 9, View: 4, Block: mark(9, 9), Signers: []int{9}, Sigs: []api.Sig{w.Sig}}
	if string(cert.TimeoutText(a)) != string(cert.TimeoutText(b)) || string(cert.TimeoutText(a)) != timeoutText(a) {
		t.Error("a timeout's text tells more of its High than the view")
	}
}
