package cert

import (
	"bytes"
	"slices"

	"wapentake/api"
	"wapentake/sign"
	"wapentake/trie"
)

// CheckFact returns the first error of the fact f, by the first record of recs that has its epoch.
func CheckFact(r *sign.Ring, recs []api.Record, f api.Fact) api.Errno {
	if len(f.Commit.Path) == 0 {
		return api.ErrForm
	}
	first := f.Commit.Path[0]
	i := slices.IndexFunc(recs, func(rec api.Record) bool { return rec.Epoch == first.Epoch })
	if i < 0 {
		return api.ErrRecord
	}
	if errno := CheckCommit(r, recs[i], f.Commit); errno != api.OK {
		return errno
	}
	return statementFault(first.Root, f)
}

// statementFault returns the first error of what a fact says of the state with a root.
func statementFault(root api.Digest, f api.Fact) api.Errno {
	value, present, errno := trie.Verify(root, f.Key, f.Proof)
	switch {
	case errno != api.OK:
		return errno
	case present == f.Absent:
		fallthrough
	case !bytes.Equal(value, f.Value): // an absent key has no bytes as its value
		return api.ErrFact
	}
	return api.OK
}
