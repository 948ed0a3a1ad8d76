package cert

import (
	"slices"

	"wapentake/api"
	"wapentake/sign"
)

// CheckVote returns the first error of the vote v, by the record rec.
func CheckVote(r *sign.Ring, rec api.Record, v api.Vote) api.Errno {
	return claim{
		chain: v.Chain, epoch: v.Epoch, view: v.View,
		signers: []int{v.Signer}, sigs: []api.Sig{v.Sig}, quorum: 1,
		text: VoteText(v),
	}.fault(r, rec)
}

// CheckTimeout returns the first error of the timeout t, by the record rec; of its High, only the view in the text counts.
func CheckTimeout(r *sign.Ring, rec api.Record, t api.Timeout) api.Errno {
	return claim{
		chain: t.Chain, epoch: t.Epoch, view: t.View,
		signers: []int{t.Signer}, sigs: []api.Sig{t.Sig}, quorum: 1,
		text: TimeoutText(t),
	}.fault(r, rec)
}

// CheckQC returns the first error of the certificate q, by the record rec.
func CheckQC(r *sign.Ring, rec api.Record, q api.QC) api.Errno {
	return claim{
		chain: q.Chain, epoch: q.Epoch, view: q.View,
		signers: q.Signers, sigs: q.Sigs, quorum: api.Quorum,
		text: VoteText(api.Vote{Chain: q.Chain, Epoch: q.Epoch, View: q.View, Block: q.Block}), // the votes of all signers have this one
	}.fault(r, rec)
}

// claim is what a vote, a timeout and a certificate have in common: members of a committee signed a text in a view.
type claim struct {
	chain, epoch int
	view         int64
	signers      []int
	sigs         []api.Sig
	quorum       int // how many signers it takes
	text         []byte
}

// fault returns the first error of a claim. Where several conditions have one error, their cases fall through to it.
func (c claim) fault(r *sign.Ring, rec api.Record) api.Errno {
	members := committeeOf(rec, c.chain)
	switch {
	case rec.Epoch != c.epoch:
		return api.ErrEpoch
	case len(members) == 0:
		return api.ErrChain
	case c.view < 1:
		return api.ErrView
	case len(c.sigs) != len(c.signers):
		fallthrough
	case !increasing(c.signers):
		fallthrough
	case slices.ContainsFunc(c.signers, members.lack):
		return api.ErrSigner
	case len(c.signers) < c.quorum:
		return api.ErrQuorum
	case !c.signed(r):
		return api.ErrSign
	}
	return api.OK
}

// signed reports whether all signatures of a claim with as many signers are valid.
func (c claim) signed(r *sign.Ring) bool {
	for i, signer := range c.signers {
		if !r.Check(signer, c.text, c.sigs[i]) {
			return false
		}
	}
	return true
}

// committee is the validators that have the seats of a chain.
type committee []int

// committeeOf returns the committee of a chain in a record's epoch; an empty one if it has none.
func committeeOf(rec api.Record, chain int) committee {
	if chain < 0 || chain >= len(rec.Seats) {
		return nil
	}
	return rec.Seats[chain]
}

// lack reports whether a validator is not one of the members.
func (c committee) lack(validator int) bool {
	return !slices.Contains(c, validator)
}

func increasing(l []int) bool {
	for i := 1; i < len(l); i++ {
		if l[i-1] >= l[i] {
			return false
		}
	}
	return true
}
