package cert_test

import (
	"slices"
	"testing"

	"wapentake/api"
	"wapentake/cert"
	"wapentake/sign"
)

// signedVote returns a valid vote of a signer.
func signedVote(t *testing.T, s *sign.Signer, v api.Vote) api.Vote {
	t.Helper()
	sig, errno := s.Sign(cert.VoteText(v))
	if errno != api.OK {
		t.Fatalf("a vote is not signed: error %d", errno)
	}
	v.Sig = sig
	return v
}

// subsets returns all lists of some of l, in the order of l.
func subsets[T any](l []T) [][]T {
	all := [][]T{nil}
	for _, x := range l {
		for _, s := range all[:len(all):len(all)] {
			all = append(all, append(slices.Clip(s), x))
		}
	}
	return all
}

// P6.7: a certificate that is made of valid votes is valid, whatever their order, and a commit with it; so is one of sign's Signers.
func TestMadeCertificatesAreValid(t *testing.T) {
	d := draw()
	signers := map[int]*sign.Signer{}
	for _, member := range d.rec().Seats[ourChain] {
		signers[member] = d.ring.Signer(member, 80)
	}
	for _, some := range subsets(d.rec().Seats[ourChain]) {
		for range len(some) {
			some = append(some[1:], some[0])
			var votes []api.Vote
			for _, member := range some {
				v := api.Vote{Chain: ourChain, Epoch: ourEpoch, View: d.last().View, Block: digest(*d.last()), Signer: member}
				v = signedVote(t, signers[member], v)
				if errno := cert.CheckVote(d.ring, *d.rec(), v); errno != api.OK {
					t.Fatalf("CheckVote: error %d", errno)
				}
				votes = append(votes, v)
			}
			q, errno := cert.Make(votes)
			if len(some) < api.Quorum {
				refuses(t, votes, api.ErrQuorum)
				continue
			}
			if errno != api.OK || !slices.Equal(q.Signers, slices.Sorted(slices.Values(some))) {
				t.Fatalf("Make of votes of %v: error %d, signers %v", some, errno, q.Signers)
			}
			*d.qc() = q
			checksQC(t, d, api.OK)
			checksCommit(t, d, api.OK)
			checksFact(t, d, api.OK)
		}
	}
}

// P6.7: a certificate that is made of votes one of which is not valid is not valid either.
func TestCertificatesOfWrongVotes(t *testing.T) {
	d := draw()
	for i := range 4 {
		var votes []api.Vote
		for j, member := range []int{11, 5, 4, 6} {
			v := api.Vote{Chain: ourChain, Epoch: ourEpoch, View: 9, Block: hash("block"), Signer: member}
			text := textOf(v)
			if i == j {
				text += " "
			}
			v.Sig = d.sign(member, 90, text)
			votes = append(votes, v)
		}
		if errno := cert.CheckVote(d.ring, *d.rec(), votes[i]); errno != api.ErrSign {
			t.Errorf("CheckVote: error %d", errno)
		}
		q, _ := cert.Make(votes)
		*d.qc() = q
		checksQC(t, d, api.ErrSign)
	}
}

// ballots is who of the members 4, 5, 6, 11 signed what, with the signatures.
type ballots map[int]map[api.Digest]api.Sig

// voteFor has the four members vote: each for neither of two blocks, for one, or for both, as two bits of a number say.
func (d *draft) voteFor(choice int, blocks [2]api.Digest) ballots {
	signed := ballots{}
	for i, member := range []int{4, 5, 6, 11} {
		signed[member] = map[api.Digest]api.Sig{}
		for j, block := range blocks {
			if choice>>(2*i+j)&1 == 1 {
				signed[member][block] = d.sign(member, int64(j), voteText(ourChain, ourEpoch, 9, block))
			}
		}
	}
	return signed
}

// certificate returns one for a block, with what signatures there are of the signers, and the rest made up of what they signed otherwise.
func (b ballots) certificate(signers []int, block, other api.Digest) api.QC {
	q := api.QC{Chain: ourChain, Epoch: ourEpoch, View: 9, Block: block, Signers: signers}
	for _, s := range signers {
		sig, ok := b[s][block]
		if !ok {
			sig = b[s][other]
		}
		q.Sigs = append(q.Sigs, sig)
	}
	return q
}

// P6.7: whoever votes for what: signers of a valid certificate signed its text, and two for different blocks have two signers that voted for both.
func TestQuorumsMeet(t *testing.T) {
	blocks := [2]api.Digest{hash("one"), hash("other")}
	met := 0
	for choice := range 256 {
		d := draw()
		signed := d.voteFor(choice, blocks)
		var valid [2][]api.QC
		for j, block := range blocks {
			for _, signers := range subsets([]int{4, 5, 6, 11}) {
				q := signed.certificate(signers, block, blocks[1-j])
				voted := !slices.ContainsFunc(signers, func(s int) bool { _, ok := signed[s][block]; return !ok })
				ok := cert.CheckQC(d.ring, *d.rec(), q) == api.OK
				if ok != (voted && len(signers) >= api.Quorum) {
					t.Fatalf("choice %x: a certificate by %v: valid %v", choice, signers, ok)
				}
				if ok {
					valid[j] = append(valid[j], q)
				}
			}
		}
		for _, a := range valid[0] {
			for _, b := range valid[1] {
				met++
				both := slices.DeleteFunc(slices.Clone(a.Signers), func(s int) bool { return !slices.Contains(b.Signers, s) })
				if len(both) < 2 || slices.ContainsFunc(both, func(s int) bool { return len(signed[s]) != 2 }) {
					t.Fatalf("choice %x: certificates by %v and %v", choice, a.Signers, b.Signers)
				}
			}
		}
	}
	if met == 0 {
		t.Error("no two certificates to compare")
	}
}

// P6.7: what others signed makes nobody a signer: his place, taken by any signature that there is, is not valid.
func TestNobodySignsForAnother(t *testing.T) {
	for i := range 3 {
		d := draw()
		q := *d.qc()
		text := voteText(q.Chain, q.Epoch, q.View, q.Block)
		fresh := newNotary()
		var there []api.Sig
		for j, s := range q.Signers {
			if i != j { // all but the signer i sign as before
				q.Sigs[j] = fresh.sign(s, 20, text)
				there = append(there, q.Sigs[j], fresh.sign(s, 21, text), fresh.sign(s, 22, "another text"))
			}
		}
		there = append(there, fresh.sign(q.Signers[i], 20, "another text"), fresh.sign(q.Signers[i], 21, timeoutText(d.timeout)), q.Sigs[i], api.Sig{})
		for _, sig := range there {
			q.Sigs[i] = sig
			if errno := cert.CheckQC(fresh.ring, *d.rec(), q); errno != api.ErrSign {
				t.Errorf("signer %d: error %d", q.Signers[i], errno)
			}
		}
		q.Sigs[i] = fresh.sign(q.Signers[i], 23, text)
		if errno := cert.CheckQC(fresh.ring, *d.rec(), q); errno != api.OK {
			t.Errorf("signer %d, when he signed: error %d", q.Signers[i], errno)
		}
	}
}
