package cert

import (
	"cmp"
	"slices"

	"wapentake/api"
)

// Make returns the certificate of all these votes, or the first error that keeps them from being one. Signatures are not checked.
func Make(votes []api.Vote) (api.QC, api.Errno) {
	if errno := votesFault(votes); errno != api.OK {
		return api.QC{}, errno
	}
	sorted := slices.Clone(votes)
	slices.SortFunc(sorted, func(a, b api.Vote) int { return cmp.Compare(a.Signer, b.Signer) })
	first := sorted[0]
	q := api.QC{Chain: first.Chain, Epoch: first.Epoch, View: first.View, Block: first.Block}
	for _, v := range sorted {
		q.Signers = append(q.Signers, v.Signer)
		q.Sigs = append(q.Sigs, v.Sig)
	}
	if !increasing(q.Signers) {
		return api.QC{}, api.ErrSigner
	}
	return q, api.OK
}

// votesFault returns the first error of votes that are not for one block in one view; that of their signers is not looked for.
func votesFault(votes []api.Vote) api.Errno {
	if len(votes) < api.Quorum {
		return api.ErrQuorum
	}
	first := ballot(votes[0])
	switch {
	case slices.ContainsFunc(votes, first.otherChain):
		return api.ErrChain
	case slices.ContainsFunc(votes, first.otherEpoch):
		return api.ErrEpoch
	case slices.ContainsFunc(votes, first.otherView):
		return api.ErrView
	case slices.ContainsFunc(votes, first.otherBlock):
		return api.ErrParent
	}
	return api.OK
}

// ballot is a vote that others are held against.
type ballot api.Vote

func (b ballot) otherChain(v api.Vote) bool { return v.Chain != b.Chain }
func (b ballot) otherEpoch(v api.Vote) bool { return v.Epoch != b.Epoch }
func (b ballot) otherView(v api.Vote) bool  { return v.View != b.View }
func (b ballot) otherBlock(v api.Vote) bool { return v.Block != b.Block }
