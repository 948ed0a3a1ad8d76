package cert_test

import (
	"math"
	"slices"
	"strconv"

	"wapentake/api"
	"wapentake/trie"
)

// The epoch and the chain of all that drafts make, and chains with the same members, without a committee, and with others.
const (
	ourEpoch   = 7
	ourChain   = 1
	emptyChain = 2
	twinChain  = 3
	otherChain = 0
)

// record returns one in which the members of our chain are 4, 5, 6, 11.
func record(epoch int) api.Record {
	return api.Record{
		Epoch:   epoch,
		Members: []int{0, 1, 2, 3, 4, 5, 6, 11},
		Seats:   [][]int{{3, 0, 2, 1}, {6, 4, 11, 5}, {}, {11, 6, 5, 4}},
	}
}

// entries returns a state: the keys k1 to k4, and v1 to v4 under them; k3 has an empty value.
func entries() []trie.Entry {
	var l []trie.Entry
	for _, name := range []string{"1", "2", "3", "4"} {
		e := trie.Entry{Key: hash("k" + name), Value: []byte("v" + name)}
		if name == "3" {
			e.Value = nil
		}
		l = append(l, e)
	}
	slices.SortFunc(l, func(a, b trie.Entry) int { return slices.Compare(a.Key[:], b.Key[:]) })
	return l
}

// draft is one of each thing that is checked, in the making, with the records that they are checked by.
type draft struct {
	notary
	recs    []api.Record // our epoch's is the second one
	vote    api.Vote
	timeout api.Timeout
	fact    api.Fact
}

// The stages in which a draft is made. A fault comes at the end of its stage.
const (
	onHeaders = iota // the headers have no parents yet
	onParents        // there is no certificate yet
	onTexts          // nothing is signed yet
	onSigs           // all is made
	stages
)

// fault is what is done to a draft in one of its stages.
type fault struct {
	name  string
	stage int
	spoil func(d *draft)
}

// draw returns a draft with faults, in each stage in their order.
func draw(faults ...fault) *draft {
	d := &draft{notary: newNotary()}
	steps := [stages]func(){d.begin, d.link, d.certify, d.signAll}
	for stage := range stages {
		steps[stage]()
		for _, f := range faults {
			if f.stage == stage {
				f.spoil(d)
			}
		}
	}
	return d
}

func (d *draft) begin() {
	d.recs = []api.Record{record(ourEpoch - 1), record(ourEpoch), {Epoch: ourEpoch}, record(ourEpoch + 1)}
	d.recs[0].Seats[ourChain] = []int{0, 1, 2, 3}
	for i, view := range []int64{3, 5, 9, 10, 11} {
		d.fact.Commit.Path = append(d.fact.Commit.Path, api.Header{
			Chain: ourChain, Epoch: ourEpoch, Height: 41 + int64(i), View: view, Txs: hash("txs"), Root: hash("later"), Proposer: 5,
		})
	}
	d.fact.Commit.Path[0].Root = trie.Root(entries())
}

func (d *draft) link() {
	link(d.fact.Commit.Path)
}

// link gives headers their parents.
func link(l []api.Header) {
	for i := 1; i < len(l); i++ {
		l[i].Parent = digest(l[i-1])
	}
}

func (d *draft) certify() {
	last := d.last()
	d.fact.Commit.QC = api.QC{Chain: ourChain, Epoch: ourEpoch, View: last.View, Block: digest(*last), Signers: []int{4, 5, 11}}
	d.vote = api.Vote{Chain: ourChain, Epoch: ourEpoch, View: 9, Block: hash("block"), Signer: 5}
	d.timeout = api.Timeout{Chain: ourChain, Epoch: ourEpoch, View: 9, High: api.QC{View: 8}, Signer: 5}
}

func (d *draft) signAll() {
	d.signQC(d.qc(), 20)
	d.vote.Sig = d.sign(d.vote.Signer, 30, textOf(d.vote))
	d.timeout.Sig = d.sign(d.timeout.Signer, 31, timeoutText(d.timeout))
	d.fact.Key, d.fact.Value = hash("k2"), []byte("v2")
	d.fact.Proof = trie.Prove(entries(), d.fact.Key)
}

func textOf(v api.Vote) string { return voteText(v.Chain, v.Epoch, v.View, v.Block) }

// signQC signs a certificate by its signers, each with its own index, from one on.
func (n notary) signQC(q *api.QC, index int64) {
	q.Sigs = nil
	for i, s := range q.Signers {
		q.Sigs = append(q.Sigs, n.sign(s, index+int64(i), voteText(q.Chain, q.Epoch, q.View, q.Block)))
	}
}

func (d *draft) rec() *api.Record { return &d.recs[1] }
func (d *draft) qc() *api.QC      { return &d.fact.Commit.QC }

// seat gives our chain a committee, if the record has the chain.
func (d *draft) seat(members ...int) {
	if ourChain < len(d.rec().Seats) {
		d.rec().Seats[ourChain] = members
	}
}

// at returns a header of the path; one that is not in it if there is no such index.
func (d *draft) at(i int) *api.Header {
	if i < 0 || i >= len(d.fact.Commit.Path) {
		return &api.Header{}
	}
	return &d.fact.Commit.Path[i]
}

func (d *draft) last() *api.Header { return d.at(len(d.fact.Commit.Path) - 1) }

// prove has the fact be about another key, with its proof.
func (d *draft) prove(key string) {
	d.fact.Key = hash(key)
	d.fact.Proof = trie.Prove(entries(), d.fact.Key)
}

// cut leaves the first n headers.
func cut(n int) fault {
	return fault{"cut to " + strconv.Itoa(n), onHeaders, func(d *draft) { d.fact.Commit.Path = d.fact.Commit.Path[:n] }}
}

// lengthen has the path have n headers.
func lengthen(n int) fault {
	return fault{"lengthen to " + strconv.Itoa(n), onHeaders, func(d *draft) {
		for len(d.fact.Commit.Path) < n {
			h := *d.last()
			h.Height++
			h.View++
			d.fact.Commit.Path = append(d.fact.Commit.Path, h)
		}
	}}
}

// onHeader changes the header with an index.
func onHeader(name string, i int, change func(h *api.Header)) fault {
	return fault{"header " + strconv.Itoa(i) + ": " + name, onHeaders, func(d *draft) { change(d.at(i)) }}
}

// headerFaults are such as a path has by each of its headers.
func headerFaults() []fault {
	var l []fault
	for i := range 5 {
		l = append(l,
			onHeader("twin chain", i, func(h *api.Header) { h.Chain = twinChain }),
			onHeader("chain below 0", i, func(h *api.Header) { h.Chain = -1 }),
			onHeader("next epoch", i, func(h *api.Header) { h.Epoch++ }),
			onHeader("epoch of no record", i, func(h *api.Header) { h.Epoch = 99 }),
			onHeader("height one more", i, func(h *api.Header) { h.Height++ }),
			onHeader("height one less", i, func(h *api.Header) { h.Height-- }),
			onHeader("view 0", i, func(h *api.Header) { h.View = 0 }),
			onHeader("view below 0", i, func(h *api.Header) { h.View = -h.View }),
			onHeader("view one more", i, func(h *api.Header) { h.View++ }),
			onHeader("view one less", i, func(h *api.Header) { h.View-- }),
			onHeader("view far ahead", i, func(h *api.Header) { h.View += 1 << 40 }),
			fault{"parent " + strconv.Itoa(i), onParents, func(d *draft) { d.at(i).Parent[31] ^= 1 }},
			fault{"grandparent " + strconv.Itoa(i), onParents, func(d *draft) { d.at(i).Parent = digest(*d.at(i - 2)) }},
			fault{"sibling " + strconv.Itoa(i), onSigs, func(d *draft) { d.at(i).Proposer++ }},
		)
	}
	return append(l,
		cut(0), cut(1), cut(2), cut(3), lengthen(6), lengthen(64), lengthen(65), lengthen(100),
		fault{"greatest heights", onHeaders, func(d *draft) { d.raise(math.MaxInt64-4, 0) }},
		fault{"heights beyond the greatest", onHeaders, func(d *draft) { d.raise(math.MaxInt64-3, 0) }},
		fault{"least heights", onHeaders, func(d *draft) { d.raise(math.MinInt64, 0) }},
		fault{"greatest views", onHeaders, func(d *draft) { d.raise(0, math.MaxInt64-4) }},
		fault{"views beyond the greatest", onHeaders, func(d *draft) { d.raise(0, math.MaxInt64-3) }},
		fault{"views 0 on", onHeaders, func(d *draft) { d.raise(0, 0) }},
		fault{"views 1 on", onHeaders, func(d *draft) { d.raise(0, 1) }},
		fault{"epoch of no record, everywhere", onHeaders, func(d *draft) { d.allEpochs(99) }},
		fault{"last record's epoch, everywhere", onHeaders, func(d *draft) { d.allEpochs(ourEpoch + 1) }},
	)
}

// raise has heights and views go up by one from their first ones on, beyond the greatest number as well.
func (d *draft) raise(height, view int64) {
	for i := range d.fact.Commit.Path {
		d.at(i).Height, d.at(i).View = height+int64(i), view+int64(i)
	}
}

func (d *draft) allEpochs(epoch int) {
	for i := range d.fact.Commit.Path {
		d.at(i).Epoch = epoch
	}
}

// qcFaults are those of a certificate, and of the record of our epoch.
func qcFaults() []fault {
	return append(signerFaults(),
		fault{"record of another epoch", onSigs, func(d *draft) { d.rec().Epoch++ }},
		fault{"record without committees", onSigs, func(d *draft) { d.rec().Seats = nil }},
		fault{"record of fewer chains", onSigs, func(d *draft) { d.rec().Seats = d.rec().Seats[:min(ourChain, len(d.rec().Seats))] }},
		fault{"record with an empty committee", onSigs, func(d *draft) { d.seat() }},
		fault{"record with another committee", onSigs, func(d *draft) { d.seat(3, 0, 2, 1) }},
		fault{"record with one member less", onSigs, func(d *draft) { d.seat(6, 4, 5) }},
		fault{"record with one member more", onSigs, func(d *draft) { d.seat(6, 4, 11, 5, 12) }},
		fault{"qc chain below 0", onTexts, func(d *draft) { d.qc().Chain = -1 }},
		fault{"qc chain without seats", onTexts, func(d *draft) { d.qc().Chain = emptyChain }},
		fault{"qc twin chain", onTexts, func(d *draft) { d.qc().Chain = twinChain }},
		fault{"qc other chain", onTexts, func(d *draft) { d.qc().Chain = otherChain }},
		fault{"qc chain beyond the last", onTexts, func(d *draft) { d.qc().Chain = 4 }},
		fault{"qc epoch", onTexts, func(d *draft) { d.qc().Epoch++ }},
		fault{"qc and record epoch", onTexts, func(d *draft) { d.qc().Epoch, d.rec().Epoch = 8, 8 }},
		fault{"qc view 0", onTexts, func(d *draft) { d.qc().View = 0 }},
		fault{"qc view below 0", onTexts, func(d *draft) { d.qc().View = -1 }},
		fault{"qc least view", onTexts, func(d *draft) { d.qc().View = math.MinInt64 }},
		fault{"qc view 1", onTexts, func(d *draft) { d.qc().View = 1 }},
		fault{"qc view one more", onTexts, func(d *draft) { d.qc().View++ }},
		fault{"qc block", onTexts, func(d *draft) { d.qc().Block[0] ^= 1 }},
		fault{"qc of the header before", onTexts, func(d *draft) {
			h := d.at(len(d.fact.Commit.Path) - 2)
			d.qc().View, d.qc().Block = h.View, digest(*h)
		}},
	)
}

// signerFaults are those of a certificate's signers and their signatures.
func signerFaults() []fault {
	signers := func(l ...int) fault {
		name := "signers"
		for _, s := range l {
			name += " " + strconv.Itoa(s)
		}
		return fault{name, onTexts, func(d *draft) { d.qc().Signers = slices.Clone(l) }}
	}
	l := []fault{
		signers(), signers(4), signers(5, 11), signers(4, 5, 6), signers(4, 5, 6, 11), signers(5, 4, 11), signers(4, 11, 5), signers(11, 5, 4),
		signers(4, 4, 11), signers(4, 5, 5), signers(4, 4), signers(11, 4), signers(4, 5, 7), signers(0, 4, 5), signers(0, 1, 2), signers(3),
		signers(-1, 4, 5), signers(4, 5, 12), signers(4, 5, 6, 12), signers(4, 5, 6, 11, 12), signers(4, 5, 11, 11),
		{"a sig more", onSigs, func(d *draft) { d.qc().Sigs = append(d.qc().Sigs, d.qc().Sigs[0:min(1, len(d.qc().Sigs))]...) }},
		{"a sig less", onSigs, func(d *draft) { d.qc().Sigs = d.qc().Sigs[:max(len(d.qc().Sigs)-1, 0)] }},
		{"no sigs", onSigs, func(d *draft) { d.qc().Sigs = nil }},
		{"sigs in another order", onSigs, func(d *draft) { slices.Reverse(d.qc().Sigs) }},
		{"qc view changed after signing", onSigs, func(d *draft) { d.qc().View++ }},
		{"qc block changed after signing", onSigs, func(d *draft) { d.qc().Block[9] ^= 8 }},
		{"qc chain changed after signing", onSigs, func(d *draft) { d.qc().Chain = twinChain }},
		{"qc epoch changed after signing", onSigs, func(d *draft) { d.qc().Epoch++; d.rec().Epoch++ }},
	}
	for i := range 3 {
		l = append(l,
			fault{"zero sig " + strconv.Itoa(i), onSigs, onSig(i, func(_ *draft, s *api.Sig) { *s = api.Sig{} })},
			fault{"index of sig " + strconv.Itoa(i), onSigs, onSig(i, func(_ *draft, s *api.Sig) { s.Index++ })},
			fault{"tag of sig " + strconv.Itoa(i), onSigs, onSig(i, func(_ *draft, s *api.Sig) { s.Tag[31] ^= 1 })},
			fault{"text of sig " + strconv.Itoa(i), onSigs, onSig(i, func(d *draft, s *api.Sig) { *s = d.sign(d.qc().Signers[i], 50, "text") })},
		)
	}
	return l
}

// onSig returns what changes one of a certificate's signatures.
func onSig(i int, change func(d *draft, s *api.Sig)) func(*draft) {
	return func(d *draft) {
		if i < len(d.qc().Sigs) && i < len(d.qc().Signers) {
			change(d, &d.qc().Sigs[i])
		}
	}
}

// factFaults are those of what a fact says, and of the records that it is checked by.
func factFaults() []fault {
	return []fault{
		{"no record of the epoch", onSigs, func(d *draft) {
			for i := range d.recs {
				d.recs[i].Epoch = -1 - i
			}
		}},
		{"our record after another one of the epoch", onSigs, func(d *draft) { d.recs[1], d.recs[2] = d.recs[2], d.recs[1] }},
		{"absent", onSigs, func(d *draft) { d.fact.Absent = true }},
		{"no value", onSigs, func(d *draft) { d.fact.Value = nil }},
		{"an empty value", onSigs, func(d *draft) { d.fact.Value = []byte{} }},
		{"another value", onSigs, func(d *draft) { d.fact.Value = []byte("v1") }},
		{"a longer value", onSigs, func(d *draft) { d.fact.Value = []byte("v2 ") }},
		{"a shorter value", onSigs, func(d *draft) { d.fact.Value = []byte("v") }},
		{"the key of an empty value", onSigs, func(d *draft) { d.prove("k3"); d.fact.Value = nil }},
		{"the key of an empty value, another one", onSigs, func(d *draft) { d.prove("k3"); d.fact.Value = []byte{0} }},
		{"no such key", onSigs, func(d *draft) { d.prove("k5"); d.fact.Value = nil }},
		{"no such key, and absent", onSigs, func(d *draft) { d.prove("k5"); d.fact.Value, d.fact.Absent = nil, true }},
		{"no such key, and absent, with a value", onSigs, func(d *draft) { d.prove("k5"); d.fact.Absent = true }},
		{"no proof", onSigs, func(d *draft) { d.fact.Proof = nil }},
		{"a proof and a byte", onSigs, func(d *draft) { d.fact.Proof = append(d.fact.Proof, 0) }},
		{"a proof of another key", onSigs, func(d *draft) { d.fact.Proof = []byte(join(str(hash("sibling")), join(str(flip(d.fact.Key)), "v"))) }},
		{"a proof of another value", onSigs, func(d *draft) { d.fact.Proof = []byte(join("", join(str(d.fact.Key), "v2"))) }},
		{"a proof of an empty state", onSigs, func(d *draft) { d.fact.Proof = []byte(join("", join())) }},
		{"the root in another header", onHeaders, func(d *draft) { d.at(1).Root, d.at(0).Root = d.at(0).Root, hash("earlier") }},
	}
}

// flip returns a key with another first bit.
func flip(key api.Digest) api.Digest {
	key[0] ^= 128
	return key
}
