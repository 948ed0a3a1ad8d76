package cert_test

import (
	"math"
	"math/rand"
	"reflect"
	"slices"
	"strconv"
	"testing"

	"wapentake/api"
	"wapentake/cert"
)

// votesOf returns votes that differ in their signers, and in signatures of which nothing is known.
func votesOf(signers ...int) []api.Vote {
	var l []api.Vote
	for i, s := range signers {
		l = append(l, api.Vote{Chain: 1, Epoch: 2, View: 3, Block: hash("block"), Signer: s, Sig: api.Sig{Index: int64(70 + i), Tag: hash("sig " + strconv.Itoa(i))}})
	}
	return l
}

// qcOf returns what votes for one block make: found by looking for the least signer that is left.
func qcOf(votes []api.Vote) api.QC {
	q := api.QC{Chain: votes[0].Chain, Epoch: votes[0].Epoch, View: votes[0].View, Block: votes[0].Block}
	rest := slices.Clone(votes)
	for len(rest) > 0 {
		least := 0
		for i := range rest {
			if rest[i].Signer < rest[least].Signer {
				least = i
			}
		}
		q.Signers, q.Sigs = append(q.Signers, rest[least].Signer), append(q.Sigs, rest[least].Sig)
		rest = slices.Delete(rest, least, least+1)
	}
	return q
}

func makes(t *testing.T, votes []api.Vote, want api.QC) {
	t.Helper()
	if q, errno := cert.Make(votes); !reflect.DeepEqual(q, want) || errno != api.OK {
		t.Errorf("Make of %d votes: %+v, error %d, want %+v", len(votes), q, errno, want)
	}
}

func refuses(t *testing.T, votes []api.Vote, want api.Errno) {
	t.Helper()
	q, errno := cert.Make(votes)
	if errno != want {
		t.Errorf("Make of %+v: error %d, want %d", votes, errno, want)
	}
	if q.Chain != 0 || q.Epoch != 0 || q.View != 0 || q.Block != (api.Digest{}) || len(q.Signers) != 0 || len(q.Sigs) != 0 {
		t.Errorf("Make of %d votes: %+v beside error %d", len(votes), q, errno)
	}
}

// The chapter's table of examples: votes.
func TestExamplesOfVotes(t *testing.T) {
	other := votesOf(0, 1, 2)
	other[1].Block = hash("another")
	refuses(t, other, api.ErrParent)
	refuses(t, votesOf(0, 1), api.ErrQuorum)
	refuses(t, votesOf(1, 1, 1), api.ErrSigner)
}

// P6.6: all votes are in the certificate, each signature with its signer, in the order of the signers.
func TestMake(t *testing.T) {
	makes(t, votesOf(0, 1, 2), api.QC{
		Chain: 1, Epoch: 2, View: 3, Block: hash("block"), Signers: []int{0, 1, 2},
		Sigs: []api.Sig{{Index: 70, Tag: hash("sig 0")}, {Index: 71, Tag: hash("sig 1")}, {Index: 72, Tag: hash("sig 2")}},
	})
	makes(t, votesOf(11, 4, 6), api.QC{
		Chain: 1, Epoch: 2, View: 3, Block: hash("block"), Signers: []int{4, 6, 11},
		Sigs: []api.Sig{{Index: 71, Tag: hash("sig 1")}, {Index: 72, Tag: hash("sig 2")}, {Index: 70, Tag: hash("sig 0")}},
	})
	random := rand.New(rand.NewSource(3))
	for n := 3; n < 200; n += 1 + n/8 {
		for range 5 {
			l := votesOf(random.Perm(n)...)
			makes(t, l, qcOf(l))
		}
	}
}

// P6.6: what the votes are for, who signs, and how, is not judged.
func TestMakeJudgesNothing(t *testing.T) {
	for _, signers := range [][]int{
		{-1, -2, -3}, {math.MaxInt, 0, math.MinInt}, {100, 1 << 40, 13, 12}, {math.MinInt, math.MinInt + 1, math.MaxInt - 1, math.MaxInt},
	} {
		l := votesOf(signers...)
		for i := range l {
			l[i].Chain, l[i].Epoch, l[i].View, l[i].Block = -1, math.MinInt, math.MinInt64, api.Digest{}
			l[i].Sig = api.Sig{Index: -1}
		}
		makes(t, l, qcOf(l))
	}
	makes(t, []api.Vote{{Signer: 2}, {Signer: 1}, {}}, api.QC{Signers: []int{0, 1, 2}, Sigs: make([]api.Sig, 3)})
}

// voteChange changes one vote of several.
type voteChange struct {
	name   string
	change func(v *api.Vote)
}

func voteChanges() []voteChange {
	return []voteChange{
		{"chain", func(v *api.Vote) { v.Chain++ }},
		{"far chain", func(v *api.Vote) { v.Chain += 1 << 32 }},
		{"epoch", func(v *api.Vote) { v.Epoch-- }},
		{"view", func(v *api.Vote) { v.View++ }},
		{"far view", func(v *api.Vote) { v.View -= 1 << 32 }},
		{"block", func(v *api.Vote) { v.Block[31] ^= 1 }},
		{"block's first byte", func(v *api.Vote) { v.Block[0] ^= 128 }},
		{"signer", func(v *api.Vote) { v.Signer = 4 }},
		{"signer and sig", func(v *api.Vote) { v.Signer, v.Sig = 4, api.Sig{Index: 70, Tag: hash("sig 0")} }},
		{"sig", func(v *api.Vote) { v.Sig = api.Sig{} }},
	}
}

// P6.6: of all errors of votes that apply, the first one: votes that differ in one place, or in two, from the first one on to the last.
func TestErrorsOfMake(t *testing.T) {
	seen := newCoverage()
	try := func(votes []api.Vote) {
		t.Helper()
		rules := makeRules(votes)
		seen.add(rules)
		if want := rules.errno(); want != api.OK {
			refuses(t, votes, want)
		} else {
			makes(t, votes, qcOf(votes))
		}
	}
	for n := range 7 {
		fresh := func() []api.Vote { return votesOf([]int{4, 11, 5, 0, 6, 1}[:n]...) }
		try(fresh())
		for i := range n {
			for _, a := range voteChanges() {
				l := fresh()
				a.change(&l[i])
				try(l)
				for j := range n {
					for _, b := range voteChanges() {
						l := fresh()
						a.change(&l[i])
						b.change(&l[j])
						try(l)
					}
				}
			}
		}
	}
	seen.demand(t, makeRules(votesOf(1, 2, 3)))
}

// P6.6: two votes of one signer, wherever they stand, with equal signatures and with unlike ones.
func TestTwoVotesOfOneSigner(t *testing.T) {
	for n := 3; n < 8; n++ {
		for i := range n {
			for j := range i {
				l := votesOf([]int{5, 3, 8, 1, 9, 0, 7}[:n]...)
				l[i].Signer = l[j].Signer
				refuses(t, l, api.ErrSigner)
				l[i].Sig = l[j].Sig
				refuses(t, l, api.ErrSigner)
			}
		}
	}
	refuses(t, nil, api.ErrQuorum)
	refuses(t, []api.Vote{}, api.ErrQuorum)
	refuses(t, votesOf(1), api.ErrQuorum)
	refuses(t, votesOf(1, 1), api.ErrQuorum)
}
