package cert

import (
	"wapentake/api"
	"wapentake/sign"
)

// minPath is how many headers at the end of a commit have consecutive views: it takes so many to commit the first of them.
const minPath = 3

// CheckCommit returns the first error of the commit c, by the record rec.
func CheckCommit(r *sign.Ring, rec api.Record, c api.Commit) api.Errno {
	if errno := pathFault(c.Path, c.QC); errno != api.OK {
		return errno
	}
	return CheckQC(r, rec, c.QC)
}

// pathFault returns the first error of a path, and of the certificate q as that of its last header; whether q is valid is not asked.
func pathFault(p path, q api.QC) api.Errno {
	switch {
	case len(p) < minPath:
		fallthrough
	case len(p) > api.MaxPath:
		return api.ErrForm
	case !p.all(p.sameChain):
		fallthrough
	case q.Chain != p[0].Chain:
		return api.ErrChain
	case !p.all(p.sameEpoch):
		fallthrough
	case q.Epoch != p[0].Epoch:
		return api.ErrEpoch
	case !p.all(p.nextHeight):
		return api.ErrHeight
	case !p.all(p.linked):
		return api.ErrParent
	case p[0].View < 1:
		fallthrough
	case !p.all(p.laterView):
		fallthrough
	case !p.end().all(p.end().nextView):
		return api.ErrView
	case q.Block != Digest(p.last()):
		fallthrough
	case q.View != p.last().View:
		return api.ErrQuorum
	}
	return api.OK
}

// path is the headers of a commit. Its checks are of the header with an index above 0.
type path []api.Header

// all reports whether a check holds for all headers after the first one.
func (p path) all(check func(i int) bool) bool {
	for i := 1; i < len(p); i++ {
		if !check(i) {
			return false
		}
	}
	return true
}

func (p path) sameChain(i int) bool  { return p[i].Chain == p[0].Chain }
func (p path) sameEpoch(i int) bool  { return p[i].Epoch == p[0].Epoch }
func (p path) nextHeight(i int) bool { return isNext(p[i-1].Height, p[i].Height) }
func (p path) linked(i int) bool     { return p[i].Parent == Digest(p[i-1]) }
func (p path) laterView(i int) bool  { return p[i].View > p[i-1].View }
func (p path) nextView(i int) bool   { return isNext(p[i-1].View, p[i].View) }

// end returns the last headers of a path, whose views are consecutive.
func (p path) end() path { return p[len(p)-minPath:] }

func (p path) last() api.Header { return p[len(p)-1] }

// isNext reports whether n is one more than before; the sum alone would have the least number follow the greatest.
func isNext(before, n int64) bool {
	return n > before && n == before+1
}
