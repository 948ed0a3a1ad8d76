package cert_test

import (
	"math"
	"slices"
	"testing"

	"wapentake/api"
	"wapentake/cert"
)

func checksVote(t *testing.T, d *draft, want api.Errno) {
	t.Helper()
	if got := cert.CheckVote(d.ring, *d.rec(), d.vote); got != want {
		t.Errorf("CheckVote of %+v: error %d, want %d", d.vote, got, want)
	}
}

func checksTimeout(t *testing.T, d *draft, want api.Errno) {
	t.Helper()
	if got := cert.CheckTimeout(d.ring, *d.rec(), d.timeout); got != want {
		t.Errorf("CheckTimeout of %+v: error %d, want %d", d.timeout, got, want)
	}
}

func checksQC(t *testing.T, d *draft, want api.Errno) {
	t.Helper()
	if got := cert.CheckQC(d.ring, *d.rec(), *d.qc()); got != want {
		t.Errorf("CheckQC of %+v: error %d, want %d", *d.qc(), got, want)
	}
}

// before is what is done to a draft before anything is signed, and after what is done to it then.
func before(spoil func(d *draft)) fault { return fault{"before", onTexts, spoil} }
func after(spoil func(d *draft)) fault  { return fault{"after", onSigs, spoil} }

// The chapter's table of examples: certificates.
func TestExamplesOfCertificates(t *testing.T) {
	example := func(want api.Errno, view int64, signers ...int) {
		t.Helper()
		checksQC(t, draw(before(func(d *draft) {
			d.rec().Seats[ourChain] = []int{0, 1, 2, 3}
			d.qc().Signers = signers
			d.qc().View = view
		})), want)
	}
	example(api.OK, 5, 0, 1, 2)
	example(api.ErrQuorum, 5, 0, 1)
	example(api.ErrSigner, 5, 0, 2, 1)
	example(api.ErrView, 0, 0, 1, 2)
}

// P6.2, P6.3: views are above 0.
func TestViews(t *testing.T) {
	for view, want := range map[int64]api.Errno{
		math.MinInt64: api.ErrView, -1 << 32: api.ErrView, -1: api.ErrView, 0: api.ErrView,
		1: api.OK, 2: api.OK, 1 << 40: api.OK, 1 << 62: api.OK, math.MaxInt64: api.OK,
	} {
		d := draw(before(func(d *draft) { d.vote.View, d.timeout.View, d.qc().View = view, view, view }))
		checksVote(t, d, want)
		checksTimeout(t, d, want)
		checksQC(t, d, want)
	}
}

// P6.2, P6.3: a chain has a committee if Seats has a list of one validator at least for it.
func TestChains(t *testing.T) {
	for chain, want := range map[int]api.Errno{
		math.MinInt: api.ErrChain, -4: api.ErrChain, -1: api.ErrChain, ourChain: api.OK, twinChain: api.OK, emptyChain: api.ErrChain,
		otherChain: api.ErrSigner, 4: api.ErrChain, 5: api.ErrChain, 1 << 32: api.ErrChain, 1<<32 + 1: api.ErrChain, math.MaxInt: api.ErrChain,
	} {
		d := draw(before(func(d *draft) { d.vote.Chain, d.timeout.Chain, d.qc().Chain = chain, chain, chain }))
		checksVote(t, d, want)
		checksTimeout(t, d, want)
		checksQC(t, d, want)
	}
	for _, seats := range [][][]int{nil, {}, {{4, 5, 6, 11}}, {nil, nil}, {{4, 5, 6, 11}, {}, {4, 5, 6, 11}}} {
		d := draw(before(func(d *draft) { d.rec().Seats = seats }))
		checksVote(t, d, api.ErrChain)
		checksTimeout(t, d, api.ErrChain)
		checksQC(t, d, api.ErrChain)
	}
	wide := [][]int{{}, {}, {}, {}, {}, {}, {11, 5, 4, 6}}
	d := draw(before(func(d *draft) { d.rec().Seats = wide; d.vote.Chain, d.timeout.Chain, d.qc().Chain = 6, 6, 6 }))
	checksVote(t, d, api.OK)
	checksTimeout(t, d, api.OK)
	checksQC(t, d, api.OK)
}

// P6.2, P6.3: the record is that of the same epoch, whichever that is.
func TestEpochs(t *testing.T) {
	for _, epoch := range []int{math.MinInt, -1, 0, 1, api.MaxEpoch, 1 << 32, math.MaxInt} {
		all := before(func(d *draft) { d.vote.Epoch, d.timeout.Epoch, d.qc().Epoch = epoch, epoch, epoch })
		d := draw(all, after(func(d *draft) { d.rec().Epoch = epoch }))
		checksVote(t, d, api.OK)
		checksTimeout(t, d, api.OK)
		checksQC(t, d, api.OK)
		for _, other := range []int{epoch + 1, epoch - 1, epoch ^ 1<<32, -epoch - 1} {
			d.rec().Epoch = other
			checksVote(t, d, api.ErrEpoch)
			checksTimeout(t, d, api.ErrEpoch)
			checksQC(t, d, api.ErrEpoch)
		}
	}
}

// P6.2: the signer is one of the committee's members, whichever seat it has; the members of the epoch are no committee.
func TestSigners(t *testing.T) {
	for signer := -2; signer < 14; signer++ {
		want := api.ErrSigner
		if slices.Contains([]int{4, 5, 6, 11}, signer) {
			want = api.OK
		}
		d := draw(before(func(d *draft) { d.vote.Signer, d.timeout.Signer = signer, signer }))
		checksVote(t, d, want)
		checksTimeout(t, d, want)
		d.rec().Members = []int{signer}
		checksVote(t, d, want)
		checksTimeout(t, d, want)
	}
}

// P6.2, P6.3: what a member without a key is said to have signed is not signed.
func TestMembersWithoutKeys(t *testing.T) {
	for _, member := range []int{math.MinInt, -1, 12, 1 << 32, math.MaxInt} {
		d := draw(before(func(d *draft) {
			d.rec().Seats[ourChain] = []int{4, 5, 6, member}
			d.vote.Signer, d.timeout.Signer = member, member
			d.qc().Signers = slices.Sorted(slices.Values([]int{4, 5, member}))
		}))
		checksVote(t, d, api.ErrSign)
		checksTimeout(t, d, api.ErrSign)
		checksQC(t, d, api.ErrSign)
	}
}

// P6.2, P6.3: signatures of another key, another text, another ring, another kind of text; the zero signature.
func TestWrongSignatures(t *testing.T) {
	other := newNotary()
	for name, wrong := range map[string]func(d *draft, key int, text string) api.Sig{
		"another key":              func(d *draft, key int, text string) api.Sig { return d.sign(key+1, 60, text) },
		"another member":           func(d *draft, key int, text string) api.Sig { return d.sign(6, 60, text) },
		"another text":             func(d *draft, key int, text string) api.Sig { return d.sign(key, 60, text+"\x00") },
		"no text":                  func(d *draft, key int, text string) api.Sig { return d.sign(key, 60, "") },
		"another ring":             func(_ *draft, key int, text string) api.Sig { return other.sign(key, 60, text) },
		"none":                     func(_ *draft, key int, text string) api.Sig { return api.Sig{} },
		"a tag that was not made":  func(_ *draft, key int, text string) api.Sig { return api.Sig{Index: 60, Tag: hash("sign")} },
		"the index of another one": func(d *draft, key int, text string) api.Sig { s := d.sign(key, 60, text); s.Index = 61; return s },
		"an index below 0":         func(d *draft, key int, text string) api.Sig { s := d.sign(key, 60, text); s.Index = -1; return s },
	} {
		d := draw()
		d.vote.Sig = wrong(d, d.vote.Signer, textOf(d.vote))
		d.timeout.Sig = wrong(d, d.timeout.Signer, timeoutText(d.timeout))
		t.Log(name)
		checksVote(t, d, api.ErrSign)
		checksTimeout(t, d, api.ErrSign)
		for i := range 3 {
			d := draw()
			q := d.qc()
			q.Sigs[i] = wrong(d, q.Signers[i], voteText(q.Chain, q.Epoch, q.View, q.Block))
			checksQC(t, d, api.ErrSign)
		}
	}
}

// P6.2: a vote is valid by its own text alone: each field that changes afterwards, and the text of a timeout, is another text.
func TestSignedTexts(t *testing.T) {
	d := draw()
	d.vote.Sig, d.timeout.Sig = d.timeout.Sig, d.vote.Sig
	checksVote(t, d, api.ErrSign)
	checksTimeout(t, d, api.ErrSign)
	for _, spoil := range []func(d *draft){
		func(d *draft) { d.vote.Chain, d.timeout.Chain = twinChain, twinChain },
		func(d *draft) { d.rec().Epoch, d.vote.Epoch, d.timeout.Epoch = 8, 8, 8 },
		func(d *draft) { d.vote.View, d.timeout.View = 10, 10 },
		func(d *draft) { d.vote.Signer, d.timeout.Signer = 4, 4 },
		func(d *draft) { d.vote.Block, d.timeout.High.View = hash("another"), 9 },
	} {
		d := draw(after(spoil))
		checksVote(t, d, api.ErrSign)
		checksTimeout(t, d, api.ErrSign)
	}
	d = draw(after(func(d *draft) { d.vote.Sig.Index++; d.timeout.Sig.Tag[0]++ }))
	checksVote(t, d, api.ErrSign)
	checksTimeout(t, d, api.ErrSign)
}

// P6.2: of a timeout's High, all but the view is ignored.
func TestTimeoutsIgnoreTheirHigh(t *testing.T) {
	for _, view := range []int64{math.MinInt64, -1, 0, 1, 8, 9, 10, math.MaxInt64} {
		for _, high := range []api.QC{
			{}, {Chain: -1}, {Chain: emptyChain, Epoch: 99}, {Signers: []int{3, 3}}, {Sigs: make([]api.Sig, 5)}, {Block: hash("block")},
		} {
			high.View = view
			d := draw(before(func(d *draft) { d.timeout.High.View = view }), after(func(d *draft) { d.timeout.High = high }))
			checksTimeout(t, d, api.OK)
			d.timeout.High.View ^= 1
			checksTimeout(t, d, api.ErrSign)
		}
	}
}

// P6.3: all lists of at most five of the members and one other: those that are increasing, of members, and of Quorum at least.
func TestSignersOfCertificates(t *testing.T) {
	pool := []int{4, 5, 6, 11, 7}
	var try func(l []int)
	try = func(l []int) {
		want := api.OK
		rising := slices.IsSorted(l) && len(slices.Compact(slices.Clone(l))) == len(l)
		if !rising || slices.Contains(l, 7) {
			want = api.ErrSigner
		} else if len(l) < api.Quorum {
			want = api.ErrQuorum
		}
		checksQC(t, draw(before(func(d *draft) { d.qc().Signers = slices.Clone(l) })), want)
		if len(l) < len(pool) {
			for _, s := range pool {
				try(append(slices.Clip(l), s))
			}
		}
	}
	try(nil)
}

// P6.3: as many Sigs as Signers, whatever they are.
func TestNumbersOfSigs(t *testing.T) {
	for signers := range 5 {
		for sigs := range 7 {
			d := draw(before(func(d *draft) { d.qc().Signers = []int{4, 5, 6, 11}[:signers] }))
			d.qc().Sigs = append(d.qc().Sigs, make([]api.Sig, 7)...)[:sigs]
			want := api.OK
			if sigs != signers {
				want = api.ErrSigner
			} else if signers < api.Quorum {
				want = api.ErrQuorum
			}
			checksQC(t, d, want)
		}
	}
}

// P6.3: committees of other sizes than Seats: the quorum is the same.
func TestCommitteesOfOtherSizes(t *testing.T) {
	for size := 1; size <= api.MaxValidators; size++ {
		var members []int
		for i := range size {
			members = append(members, (i*5+3)%api.MaxValidators)
		}
		for n := range size + 1 {
			want := api.OK
			if n < api.Quorum {
				want = api.ErrQuorum
			}
			checksQC(t, draw(before(func(d *draft) {
				d.rec().Seats[ourChain] = members
				d.qc().Signers = slices.Sorted(slices.Values(members[:n]))
			})), want)
		}
	}
}

// P6.3: the root's certificate, which nobody signed, is none of a committee's.
func TestRootCertificate(t *testing.T) {
	d := draw(after(func(d *draft) { *d.qc() = api.QC{Chain: ourChain, Epoch: ourEpoch, Block: hash("root")} }))
	checksQC(t, d, api.ErrView)
	d.qc().View = 1
	checksQC(t, d, api.ErrQuorum)
}
