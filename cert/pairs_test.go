package cert_test

import (
	"math/rand"
	"slices"
	"strconv"
	"strings"
	"testing"

	"wapentake/api"
	"wapentake/cert"
)

// coverage is which rules were broken: each alone, and two of them where the first one is what is answered.
type coverage struct {
	alone map[string]bool
	pairs map[[2]string]bool
}

func newCoverage() coverage {
	return coverage{map[string]bool{}, map[[2]string]bool{}}
}

func (c coverage) add(v verdict) {
	broken := v.broken()
	if len(broken) == 1 {
		c.alone[broken[0]] = true
	}
	for i := 1; i < len(broken); i++ {
		c.pairs[[2]string{broken[0], broken[i]}] = true
	}
}

// demand tells of rules that no input broke alone, and of two that no input broke together, but of those that cannot be.
func (c coverage) demand(t *testing.T, rules verdict, never ...string) {
	t.Helper()
	for i, a := range rules {
		if !c.alone[a.name] && !slices.Contains(never, a.name) {
			t.Errorf("%s: never alone", a.name)
		}
		for _, b := range rules[i+1:] {
			both := a.name + ", " + b.name
			possible := !slices.ContainsFunc([]string{both, a.name + ", *", "*, " + b.name}, func(s string) bool { return slices.Contains(never, s) })
			if possible && !c.pairs[[2]string{a.name, b.name}] {
				t.Errorf("%s: never together", both)
			}
		}
	}
}

// trial is a function with the rules that it is held against.
type trial struct {
	rules func(d *draft) verdict
	check func(d *draft) api.Errno
}

// holds tells of an answer that is not the first error that applies.
func (tr trial) holds(t *testing.T, seen coverage, faults ...fault) {
	t.Helper()
	d := draw(faults...)
	rules := tr.rules(d)
	if got := tr.check(d); got != rules.errno() {
		t.Fatalf("%s: error %d, want %d: %q", names(faults), got, rules.errno(), rules.broken())
	}
	seen.add(rules)
}

func names(faults []fault) string {
	var l []string
	for _, f := range faults {
		l = append(l, f.name)
	}
	return strings.Join(l, "; ")
}

// run makes a trial without faults, with each one, with each two in both orders, and with more at random.
func (tr trial) run(t *testing.T, faults []fault, never ...string) {
	t.Helper()
	if d := draw(); tr.check(d) != api.OK || tr.rules(d).errno() != api.OK {
		t.Fatalf("no fault: error %d, want %d", tr.check(d), tr.rules(d).errno())
	}
	seen := newCoverage()
	for i, a := range faults {
		tr.holds(t, seen, a)
		for j, b := range faults {
			if i != j {
				tr.holds(t, seen, a, b)
			}
		}
	}
	random := rand.New(rand.NewSource(1))
	for range 5000 {
		var l []fault
		for range 3 + random.Intn(3) {
			l = append(l, faults[random.Intn(len(faults))])
		}
		tr.holds(t, seen, l...)
	}
	seen.demand(t, tr.rules(draw()), never...)
}

// voteFaults are those of a vote, and what they are of a timeout.
func voteFaults() []fault {
	both := func(name string, stage int, change func(d *draft, chain, epoch *int, view *int64, signer *int, sig *api.Sig)) fault {
		return fault{name, stage, func(d *draft) {
			v, t := &d.vote, &d.timeout
			change(d, &v.Chain, &v.Epoch, &v.View, &v.Signer, &v.Sig)
			change(d, &t.Chain, &t.Epoch, &t.View, &t.Signer, &t.Sig)
		}}
	}
	var l []fault
	for _, stage := range []int{onTexts, onSigs} {
		when := map[int]string{onTexts: " before it is signed", onSigs: " after it is signed"}[stage]
		for _, n := range []int{-1 << 63, -1, 0, 1, 2, 3, 4, 5, 7, 8, 11, 12, 1 << 32, 1<<63 - 1} {
			at := " " + strconv.Itoa(n) + when
			l = append(l,
				both("chain"+at, stage, func(_ *draft, chain, _ *int, _ *int64, _ *int, _ *api.Sig) { *chain = n }),
				both("epoch"+at, stage, func(_ *draft, _, epoch *int, _ *int64, _ *int, _ *api.Sig) { *epoch = n }),
				both("view"+at, stage, func(_ *draft, _, _ *int, view *int64, _ *int, _ *api.Sig) { *view = int64(n) }),
				both("signer"+at, stage, func(_ *draft, _, _ *int, _ *int64, signer *int, _ *api.Sig) { *signer = n }),
			)
		}
	}
	return append(l,
		fault{"block and high before they are signed", onTexts, func(d *draft) { d.vote.Block[0]++; d.timeout.High.View++ }},
		fault{"block and high after they are signed", onSigs, func(d *draft) { d.vote.Block[31]++; d.timeout.High.View++ }},
		fault{"high without a view", onSigs, func(d *draft) { d.timeout.High = api.QC{View: 8, Chain: -1, Epoch: 99, Signers: []int{1, 1}} }},
		both("sig's index", onSigs, func(_ *draft, _, _ *int, _ *int64, _ *int, sig *api.Sig) { sig.Index++ }),
		both("sig's tag", onSigs, func(_ *draft, _, _ *int, _ *int64, _ *int, sig *api.Sig) { sig.Tag[0]++ }),
		both("zero sig", onSigs, func(_ *draft, _, _ *int, _ *int64, _ *int, sig *api.Sig) { *sig = api.Sig{} }),
		both("sig of another key", onSigs, func(d *draft, _, _ *int, _ *int64, signer *int, sig *api.Sig) {
			*sig = d.sign((*signer+1)%api.MaxValidators, 40, textOf(d.vote))
		}),
	)
}

// P6.2: of all errors of a vote that apply, the first one.
func TestErrorsOfVotes(t *testing.T) {
	trial{
		func(d *draft) verdict { return d.voteRules(*d.rec(), d.vote) },
		func(d *draft) api.Errno { return cert.CheckVote(d.ring, *d.rec(), d.vote) },
	}.run(t, append(voteFaults(), qcFaults()...),
		"chain", // where there is no committee, no signer is in it
	)
}

// P6.2: of all errors of a timeout that apply, the first one.
func TestErrorsOfTimeouts(t *testing.T) {
	trial{
		func(d *draft) verdict { return d.timeoutRules(*d.rec(), d.timeout) },
		func(d *draft) api.Errno { return cert.CheckTimeout(d.ring, *d.rec(), d.timeout) },
	}.run(t, append(voteFaults(), qcFaults()...), "chain")
}

// P6.3: of all errors of a certificate that apply, the first one.
func TestErrorsOfCertificates(t *testing.T) {
	trial{
		func(d *draft) verdict { return d.qcRules(*d.rec(), *d.qc()) },
		func(d *draft) api.Errno { return cert.CheckQC(d.ring, *d.rec(), *d.qc()) },
	}.run(t, qcFaults(),
		"qc chain", // where there is no committee, no signer is in it, and without signers there are few
	)
}

// P6.4: of all errors of a commit that apply, the first one.
func TestErrorsOfCommits(t *testing.T) {
	trial{
		func(d *draft) verdict { return d.commitRules(*d.rec(), d.fact.Commit) },
		func(d *draft) api.Errno { return cert.CheckCommit(d.ring, *d.rec(), d.fact.Commit) },
	}.run(t, append(headerFaults(), qcFaults()...),
		"qc chain",
		"qc view", "qc view, *", "qc epoch, qc view", "qc chain, qc view", // then the last header has no view, or another one, too
	)
}

// P6.5: of all errors of a fact that apply, the first one.
func TestErrorsOfFacts(t *testing.T) {
	rules := func(d *draft) verdict { return d.factRules(d.recs, d.fact) }
	never := []string{
		"qc chain",
		"qc view", "qc view, *", "qc chain, qc view",
		"qc epoch", "qc epoch, *", "*, qc epoch", // then the certificate has another epoch than the first header, too
		"proof's form, proof", "proof's form, root", "proof, root", // trie tells one of them alone
	}
	trial{
		rules,
		func(d *draft) api.Errno { return cert.CheckFact(d.ring, d.recs, d.fact) },
	}.run(t, slices.Concat(headerFaults(), qcFaults(), factFaults()), never...)
}
