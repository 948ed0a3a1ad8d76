package cert_test

import (
	"bytes"
	"reflect"
	"slices"
	"testing"

	"wapentake/api"
	"wapentake/cert"
	"wapentake/sign"
)

// roomy returns a copy of x that shares no memory with it; each list has room behind it.
func roomy[T any](x T) T {
	v := reflect.ValueOf(&x).Elem()
	stretch(v)
	return x
}

func stretch(v reflect.Value) {
	switch v.Kind() {
	case reflect.Struct:
		for i := range v.NumField() {
			stretch(v.Field(i))
		}
	case reflect.Slice:
		l := reflect.MakeSlice(v.Type(), v.Len(), v.Len()+3)
		reflect.Copy(l, v)
		for i := range l.Len() {
			stretch(l.Index(i))
		}
		v.Set(l)
	}
}

// unchanged tells whether what roomy returned for want is as it was, in the room behind the lists as well.
func unchanged[T any](x, want T) bool {
	return sameRoom(reflect.ValueOf(x), reflect.ValueOf(roomy(want)))
}

func sameRoom(a, b reflect.Value) bool {
	switch a.Kind() {
	case reflect.Struct:
		for i := range a.NumField() {
			if !sameRoom(a.Field(i), b.Field(i)) {
				return false
			}
		}
		return true
	case reflect.Slice:
		if a.Len() != b.Len() || a.Cap() != b.Cap() {
			return false
		}
		for i := range a.Cap() {
			if !sameRoom(a.Slice(0, a.Cap()).Index(i), b.Slice(0, b.Cap()).Index(i)) {
				return false
			}
		}
		return true
	}
	return a.Equal(b)
}

// R3: no check changes what it is given, nor what stands behind it, whatever it answers.
func TestChecksChangeNothing(t *testing.T) {
	for _, f := range append(slices.Concat(headerFaults(), qcFaults(), factFaults()), after(func(*draft) {})) {
		d := draw(f)
		recs, fact, vote, timeout := roomy(d.recs), roomy(d.fact), roomy(d.vote), roomy(d.timeout)
		signings := made(d.ring)
		cert.CheckFact(d.ring, recs, fact)
		cert.CheckCommit(d.ring, recs[1], fact.Commit)
		cert.CheckQC(d.ring, recs[1], fact.Commit.QC)
		cert.CheckVote(d.ring, recs[1], vote)
		cert.CheckTimeout(d.ring, recs[1], timeout)
		cert.TimeoutText(timeout)
		cert.VoteText(vote)
		if !unchanged(recs, d.recs) || !unchanged(fact, d.fact) || !unchanged(vote, d.vote) || !unchanged(timeout, d.timeout) {
			t.Fatalf("%s: an argument changed", f.name)
		}
		if !slices.Equal(made(d.ring), signings) {
			t.Fatalf("%s: a check signed something", f.name)
		}
	}
}

// made returns how many signings each key of a ring has.
func made(r *sign.Ring) []int {
	var l []int
	for key := range api.MaxValidators {
		l = append(l, r.Made(key))
	}
	return l
}

// R3: Make and Txs change nothing, not even the order; what Make returns shares no memory with the votes, nor with another result.
func TestMakeSharesNoMemory(t *testing.T) {
	for _, signers := range [][]int{{11, 4, 5}, {4, 5, 11}, {6, 11, 5, 4}, {5, 5, 4}, {4, 5}, {9, 8, 7, 6, 5, 4, 3, 2, 1, 0}} {
		want := votesOf(signers...)
		votes := roomy(want)
		q, errno := cert.Make(votes)
		again, _ := cert.Make(votes)
		if !unchanged(votes, want) {
			t.Fatalf("Make of votes of %v changed them", signers)
		}
		if errno != api.OK {
			continue
		}
		for i := range votes[:cap(votes)] {
			votes[:cap(votes)][i] = api.Vote{Signer: -1}
		}
		if !reflect.DeepEqual(q, qcOf(want)) {
			t.Fatalf("the certificate of %v changed with the votes", signers)
		}
		clear(q.Signers[:cap(q.Signers)])
		clear(q.Sigs[:cap(q.Sigs)])
		if !reflect.DeepEqual(again, qcOf(want)) {
			t.Fatalf("a certificate of %v changed with another one", signers)
		}
	}
	l := roomy(txs())
	cert.Txs(l)
	if !unchanged(l, txs()) {
		t.Error("Txs changed the transactions")
	}
}

// R3, R4: a text belongs to the caller: the next one is the same, whatever he does with it.
func TestTextsShareNoMemory(t *testing.T) {
	d := draw()
	for name, text := range map[string]func() []byte{
		"VoteText":    func() []byte { return cert.VoteText(d.vote) },
		"TimeoutText": func() []byte { return cert.TimeoutText(d.timeout) },
		"ProposeText": func() []byte { return cert.ProposeText(*d.at(1)) },
	} {
		a, b := text(), text()
		want := bytes.Clone(b)
		for i := range a[:cap(a)] {
			a[:cap(a)][i] ^= 255
		}
		if !bytes.Equal(b, want) || !bytes.Equal(text(), want) {
			t.Errorf("%s: a text changed with another one", name)
		}
	}
}

// R4: the same calls have the same results, whatever was checked between them.
func TestSameCallsAgain(t *testing.T) {
	d := draw()
	root, text := cert.Txs(txs()), cert.VoteText(d.vote)
	for _, f := range slices.Concat(headerFaults(), qcFaults(), factFaults()) {
		other := draw(f)
		cert.CheckFact(other.ring, other.recs, other.fact)
		cert.CheckFact(d.ring, other.recs, other.fact)
		cert.CheckVote(d.ring, *other.rec(), other.vote)
		checksFact(t, d, api.OK)
		checksCommit(t, d, api.OK)
		checksQC(t, d, api.OK)
		checksVote(t, d, api.OK)
		checksTimeout(t, d, api.OK)
		if cert.Txs(txs()) != root || !bytes.Equal(cert.VoteText(d.vote), text) || cert.Digest(*d.at(1)) != digest(*d.at(1)) {
			t.Fatal("the same call has another result")
		}
	}
}

// R3, R4: what was checked may change afterwards; a check after it judges what it is then, and nothing is kept.
func TestNothingIsKept(t *testing.T) {
	d := draw()
	checksFact(t, d, api.OK)
	d.fact.Commit.Path[0].Root[0]++
	checksFact(t, d, api.ErrParent)
	d.fact.Commit.Path[0].Root[0]--
	checksFact(t, d, api.OK)
	d.recs[1].Seats[ourChain][0] = 5
	d.recs[1].Seats[ourChain][3] = 6
	checksFact(t, d, api.OK)
	d.recs[1].Seats[ourChain][0] = 6
	checksFact(t, d, api.ErrSigner)
}

// P6.2, P6.3: a signature that is not valid yet is valid once it is made, and remains so.
func TestSignaturesThatAreMadeLater(t *testing.T) {
	d, later := draw(), newNotary()
	if got := cert.CheckFact(later.ring, d.recs, d.fact); got != api.ErrSign {
		t.Errorf("nothing is signed: error %d", got)
	}
	q := d.qc()
	for i, s := range q.Signers {
		later.sign(s, q.Sigs[i].Index, voteText(q.Chain, q.Epoch, q.View, q.Block))
		want := api.ErrSign
		if i == 2 {
			want = api.OK
		}
		for range 2 {
			if got := cert.CheckFact(later.ring, d.recs, d.fact); got != want {
				t.Errorf("%d have signed: error %d, want %d", i+1, got, want)
			}
		}
	}
}
