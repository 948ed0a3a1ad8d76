package cert_test

import (
	"crypto/sha256"
	"encoding/binary"
	"slices"
	"strings"

	"wapentake/api"
	"wapentake/sign"
	"wapentake/trie"
)

// A second reading of the chapter, over crypto/sha256: of each error, whether it applies, not only which one is the first.

func num[N int | int64](n N) string {
	return string(binary.BigEndian.AppendUint64(nil, uint64(n)))
}

func str(d api.Digest) string { return string(d[:]) }

func join(parts ...string) string {
	var joined strings.Builder
	joined.WriteString(num(len(parts)))
	for _, p := range parts {
		joined.WriteString(num(len(p)))
		joined.WriteString(p)
	}
	return joined.String()
}

func hash(s string) api.Digest { return sha256.Sum256([]byte(s)) }

func digest(h api.Header) api.Digest {
	return hash(join("block", join(
		num(h.Chain), num(h.Epoch), num(h.Height), num(h.View), str(h.Parent), str(h.Txs), str(h.Root), num(h.Proposer),
	)))
}

func voteText(chain, epoch int, view int64, block api.Digest) string {
	return join("vote", num(chain), num(epoch), num(view), str(block))
}

func timeoutText(t api.Timeout) string {
	return join("timeout", num(t.Chain), num(t.Epoch), num(t.View), num(t.High.View))
}

func proposeText(h api.Header) string {
	return join("propose", str(digest(h)))
}

// signing is one that was made.
type signing struct {
	key   int
	index int64
	text  string
}

// notary is a ring, and all that was signed with it.
type notary struct {
	ring *sign.Ring
	made map[signing]bool
}

func newNotary() notary {
	return notary{sign.New(api.MaxValidators, 100), map[signing]bool{}}
}

// sign returns the signature of a text; the zero one if the ring has no such key.
func (n notary) sign(key int, index int64, text string) api.Sig {
	s, errno := n.ring.Sign(key, index, []byte(text))
	if errno == api.OK {
		n.made[signing{key, index, text}] = true
	}
	return s
}

func (n notary) valid(key int, text string, s api.Sig) bool {
	return n.made[signing{key, s.Index, text}] && s.Tag == hash(join("sign", num(key), num(s.Index), text))
}

// rule is an error that the chapter names for a function, and whether it applies.
type rule struct {
	name   string
	errno  api.Errno
	broken bool
}

// verdict is all rules of a function, in their order.
type verdict []rule

// errno returns the error that is named first of those that apply.
func (v verdict) errno() api.Errno {
	for _, r := range v {
		if r.broken {
			return r.errno
		}
	}
	return api.OK
}

// broken returns the names of the rules that are broken.
func (v verdict) broken() []string {
	var l []string
	for _, r := range v {
		if r.broken {
			l = append(l, r.name)
		}
	}
	return l
}

// seats returns the committee of a chain; nobody if it has none.
func seats(rec api.Record, chain int) []int {
	for i, l := range rec.Seats {
		if i == chain {
			return l
		}
	}
	return nil
}

func (n notary) voteRules(rec api.Record, v api.Vote) verdict {
	return verdict{
		{"epoch", api.ErrEpoch, rec.Epoch != v.Epoch},
		{"chain", api.ErrChain, len(seats(rec, v.Chain)) == 0},
		{"view", api.ErrView, v.View <= 0},
		{"signer", api.ErrSigner, !slices.Contains(seats(rec, v.Chain), v.Signer)},
		{"sign", api.ErrSign, !n.valid(v.Signer, voteText(v.Chain, v.Epoch, v.View, v.Block), v.Sig)},
	}
}

func (n notary) timeoutRules(rec api.Record, t api.Timeout) verdict {
	return verdict{
		{"epoch", api.ErrEpoch, rec.Epoch != t.Epoch},
		{"chain", api.ErrChain, len(seats(rec, t.Chain)) == 0},
		{"view", api.ErrView, t.View <= 0},
		{"signer", api.ErrSigner, !slices.Contains(seats(rec, t.Chain), t.Signer)},
		{"sign", api.ErrSign, !n.valid(t.Signer, timeoutText(t), t.Sig)},
	}
}

func (n notary) qcRules(rec api.Record, q api.QC) verdict {
	outside, forged := false, false
	for i, s := range q.Signers {
		outside = outside || !slices.Contains(seats(rec, q.Chain), s)
		forged = forged || i < len(q.Sigs) && !n.valid(s, voteText(q.Chain, q.Epoch, q.View, q.Block), q.Sigs[i])
	}
	sorted := slices.Compact(slices.Sorted(slices.Values(q.Signers)))
	return verdict{
		{"qc epoch", api.ErrEpoch, rec.Epoch != q.Epoch},
		{"qc chain", api.ErrChain, len(seats(rec, q.Chain)) == 0},
		{"qc view", api.ErrView, q.View <= 0},
		{"signers", api.ErrSigner, len(q.Sigs) != len(q.Signers) || !slices.Equal(sorted, q.Signers) || outside},
		{"few", api.ErrQuorum, len(q.Signers) < 3},
		{"sign", api.ErrSign, forged},
	}
}

// pathRules are those of a commit that need no record.
func pathRules(c api.Commit) verdict {
	l := c.Path
	rules := verdict{{"form", api.ErrForm, len(l) < 3 || len(l) > 64}}
	if len(l) == 0 {
		return rules
	}
	first, last := l[0], l[len(l)-1]
	chain, epoch, height, parent, view := c.QC.Chain != first.Chain, c.QC.Epoch != first.Epoch, false, false, first.View <= 0
	for i := 1; i < len(l); i++ {
		a, b := l[i-1], l[i]
		chain = chain || b.Chain != first.Chain
		epoch = epoch || b.Epoch != first.Epoch
		height = height || !next(a.Height, b.Height)
		parent = parent || b.Parent != digest(a)
		view = view || b.View <= a.View || i >= len(l)-2 && !next(a.View, b.View)
	}
	return append(rules,
		rule{"chain", api.ErrChain, chain},
		rule{"epoch", api.ErrEpoch, epoch},
		rule{"height", api.ErrHeight, height},
		rule{"parent", api.ErrParent, parent},
		rule{"view", api.ErrView, view},
		rule{"last", api.ErrQuorum, c.QC.Block != digest(last) || c.QC.View != last.View},
	)
}

// next tells whether b is one more than a, which no number is for the greatest.
func next(a, b int64) bool {
	return a != 1<<63-1 && b == a+1
}

func (n notary) commitRules(rec api.Record, c api.Commit) verdict {
	return append(pathRules(c), n.qcRules(rec, c.QC)...)
}

func (n notary) factRules(recs []api.Record, f api.Fact) verdict {
	if len(f.Commit.Path) == 0 {
		return verdict{{"empty", api.ErrForm, true}}
	}
	first := f.Commit.Path[0]
	known, rec := false, record(first.Epoch) // one that would be right, if there is none
	for _, r := range recs {
		if r.Epoch == first.Epoch {
			known, rec = true, r
			break
		}
	}
	rules := append(verdict{{"record", api.ErrRecord, !known}}, n.commitRules(rec, f.Commit)...)
	value, present, errno := trie.Verify(first.Root, f.Key, f.Proof)
	wrong := !present || string(value) != string(f.Value)
	if f.Absent {
		wrong = present || len(f.Value) > 0
	}
	return append(rules,
		rule{"proof's form", api.ErrForm, errno == api.ErrForm},
		rule{"proof", api.ErrProof, errno == api.ErrProof},
		rule{"root", api.ErrRoot, errno == api.ErrRoot},
		rule{"fact", api.ErrFact, wrong},
	)
}

func makeRules(votes []api.Vote) verdict {
	few := rule{"few", api.ErrQuorum, len(votes) < 3}
	if len(votes) == 0 {
		return verdict{few}
	}
	// differs tells whether what is told of a vote is not the same of all votes.
	differs := func(told func(api.Vote) string) bool {
		seen := map[string]bool{}
		for _, v := range votes {
			seen[told(v)] = true
		}
		return len(seen) > 1
	}
	signers := map[int]bool{}
	for _, v := range votes {
		signers[v.Signer] = true
	}
	return verdict{
		few,
		{"chain", api.ErrChain, differs(func(v api.Vote) string { return num(v.Chain) })},
		{"epoch", api.ErrEpoch, differs(func(v api.Vote) string { return num(v.Epoch) })},
		{"view", api.ErrView, differs(func(v api.Vote) string { return num(v.View) })},
		{"parent", api.ErrParent, differs(func(v api.Vote) string { return str(v.Block) })},
		{"signer", api.ErrSigner, len(signers) < len(votes)},
	}
}
