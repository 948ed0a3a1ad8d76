package cert_test

import (
	"slices"
	"testing"

	"wapentake/api"
	"wapentake/cert"
	"wapentake/trie"
)

func checksFact(t *testing.T, d *draft, want api.Errno) {
	t.Helper()
	if got := cert.CheckFact(d.ring, d.recs, d.fact); got != want {
		t.Errorf("CheckFact of %q, %v: error %d, want %d", d.fact.Value, d.fact.Absent, got, want)
	}
}

// P6.5: of keys that are present and of ones that are absent, with Absent set and not set, with all kinds of values.
func TestWhatFactsSay(t *testing.T) {
	values := map[string]string{"k1": "v1", "k2": "v2", "k3": "", "k4": "v4"}
	for _, key := range []string{"k1", "k2", "k3", "k4", "k5", "k6", "k7", "k8", ""} {
		for _, absent := range []bool{false, true} {
			for _, value := range []string{"", "v1", "v2", "v4", "v", "v22", "\x00"} {
				right, present := values[key]
				want := api.ErrFact
				if absent != present && value == right {
					want = api.OK
				}
				checksFact(t, draw(after(func(d *draft) {
					d.prove(key)
					d.fact.Absent, d.fact.Value = absent, []byte(value)
				})), want)
			}
		}
	}
}

// P6.5: no value is an empty one, whether it is nil or not.
func TestEmptyValues(t *testing.T) {
	for _, none := range [][]byte{nil, {}} {
		checksFact(t, draw(after(func(d *draft) { d.prove("k3"); d.fact.Value = none })), api.OK)
		checksFact(t, draw(after(func(d *draft) { d.prove("k5"); d.fact.Value, d.fact.Absent = none, true })), api.OK)
		checksFact(t, draw(after(func(d *draft) { d.fact.Value = none })), api.ErrFact)
	}
}

// P6.5: the proof is by the root of the first header, and no other's.
func TestRootsOfFacts(t *testing.T) {
	root := trie.Root(entries())
	for i := range 5 {
		want := api.ErrRoot
		if i == 0 {
			want = api.OK
		}
		checksFact(t, draw(fault{"root", onHeaders, func(d *draft) { d.at(0).Root = hash("another"); d.at(i).Root = root }}), want)
	}
	all := fault{"all roots", onHeaders, func(d *draft) {
		for i := range d.fact.Commit.Path {
			d.at(i).Root = root
		}
	}}
	checksFact(t, draw(all), api.OK)
}

// P6.5: proofs that trie refuses: by their form, with an entry off the path, for another root.
func TestProofsOfFacts(t *testing.T) {
	for _, c := range []struct {
		proof func(d *draft) string
		want  api.Errno
	}{
		{func(d *draft) string { return "" }, api.ErrForm},
		{func(d *draft) string { return string(d.fact.Proof[:len(d.fact.Proof)-1]) }, api.ErrForm},
		{func(d *draft) string { return string(d.fact.Proof) + "\x00" }, api.ErrForm},
		{func(d *draft) string { return join(str(hash("x")), join(str(flip(d.fact.Key)), "v2")) }, api.ErrProof},
		{func(d *draft) string { return join("", join(str(d.fact.Key), "v2")) }, api.ErrRoot},
		{func(d *draft) string { return join("", join()) }, api.ErrRoot},
		{func(d *draft) string { return string(trie.Prove(entries(), hash("k1"))) }, api.ErrProof},
		{func(d *draft) string { return string(trie.Prove(entries()[1:], d.fact.Key)) }, api.ErrRoot},
		{func(d *draft) string { return string(trie.Prove(entries(), d.fact.Key)) }, api.OK},
	} {
		checksFact(t, draw(after(func(d *draft) { d.fact.Proof = []byte(c.proof(d)) })), c.want)
	}
	d := draw(fault{"empty state", onHeaders, func(d *draft) { d.at(0).Root = trie.Root(nil) }})
	d.fact.Proof = trie.Prove(nil, d.fact.Key)
	checksFact(t, d, api.ErrFact)
	d.fact.Value, d.fact.Absent = nil, true
	checksFact(t, d, api.OK)
}

// P6.5: the record is the first one that has the epoch of the first header.
func TestRecordsOfFacts(t *testing.T) {
	ours, others := record(ourEpoch), record(ourEpoch)
	others.Seats[ourChain] = []int{0, 1, 2, 3}
	before, behind, bare := record(ourEpoch-1), record(ourEpoch+1), api.Record{Epoch: ourEpoch}
	for _, c := range []struct {
		recs []api.Record
		want api.Errno
	}{
		{nil, api.ErrRecord},
		{[]api.Record{}, api.ErrRecord},
		{[]api.Record{before, behind}, api.ErrRecord},
		{[]api.Record{ours}, api.OK},
		{[]api.Record{before, ours, behind}, api.OK},
		{[]api.Record{behind, before, ours}, api.OK},
		{[]api.Record{ours, others}, api.OK},
		{[]api.Record{ours, bare, ours}, api.OK},
		{[]api.Record{others, ours}, api.ErrSigner},
		{[]api.Record{before, bare, ours}, api.ErrChain},
		{[]api.Record{bare}, api.ErrChain},
	} {
		checksFact(t, draw(after(func(d *draft) { d.recs = c.recs })), c.want)
	}
}

// P6.5: an empty path comes before the records, and these before the lengths of a path.
func TestPathsOfFacts(t *testing.T) {
	none := after(func(d *draft) { d.recs = nil })
	checksFact(t, draw(cut(0)), api.ErrForm)
	checksFact(t, draw(cut(0), none), api.ErrForm)
	checksFact(t, draw(none), api.ErrRecord)
	for n := 1; n < 3; n++ {
		checksFact(t, draw(cut(n)), api.ErrForm)
		checksFact(t, draw(cut(n), none), api.ErrRecord)
	}
	checksFact(t, draw(cut(3), none), api.ErrRecord)
	checksFact(t, draw(lengthen(api.MaxPath)), api.OK)
	checksFact(t, draw(lengthen(api.MaxPath+1)), api.ErrForm)
	checksFact(t, draw(lengthen(api.MaxPath+1), none), api.ErrRecord)
	if got := cert.CheckFact(newNotary().ring, nil, api.Fact{}); got != api.ErrForm {
		t.Errorf("CheckFact of a zero fact: error %d", got)
	}
}

// P6.5: the record is looked for by the epoch of the first header, not by that of a later one, or of the certificate.
func TestEpochsOfFacts(t *testing.T) {
	checksFact(t, draw(onHeader("epoch", 0, func(h *api.Header) { h.Epoch = 99 })), api.ErrRecord)
	checksFact(t, draw(onHeader("epoch", 1, func(h *api.Header) { h.Epoch = 99 })), api.ErrEpoch)
	checksFact(t, draw(before(func(d *draft) { d.qc().Epoch = 99 })), api.ErrEpoch)
}

// P6.5: a fact of a commit that is not valid says nothing, however right it is.
func TestCommitsOfFacts(t *testing.T) {
	for _, f := range slices.Concat(headerFaults(), qcFaults()) {
		d := draw(f)
		i := slices.IndexFunc(d.recs, func(rec api.Record) bool { return rec.Epoch == d.at(0).Epoch })
		if len(d.fact.Commit.Path) == 0 || i < 0 {
			continue
		}
		want := cert.CheckCommit(d.ring, d.recs[i], d.fact.Commit)
		checksFact(t, d, want)
		d.fact.Absent = !d.fact.Absent
		if want == api.OK {
			want = api.ErrFact
		}
		checksFact(t, d, want)
	}
}
