package cert_test

import (
	"math"
	"testing"

	"wapentake/api"
	"wapentake/cert"
)

func checksCommit(t *testing.T, d *draft, want api.Errno) {
	t.Helper()
	if got := cert.CheckCommit(d.ring, *d.rec(), d.fact.Commit); got != want {
		t.Errorf("CheckCommit of %d headers: error %d, want %d", len(d.fact.Commit.Path), got, want)
	}
}

// withViews has a path of headers with these views.
func withViews(views ...int64) fault {
	return fault{"views", onHeaders, func(d *draft) {
		h := *d.at(0)
		d.fact.Commit.Path = nil
		for i, view := range views {
			h.View, h.Height = view, 41+int64(i)
			d.fact.Commit.Path = append(d.fact.Commit.Path, h)
		}
	}}
}

// The chapter's table of examples, and that of the whole: commits.
func TestExamplesOfCommits(t *testing.T) {
	checksCommit(t, draw(cut(2)), api.ErrForm)
	checksCommit(t, draw(withViews(4, 5, 7)), api.ErrView)
	checksCommit(t, draw(withViews(4, 5, 6)), api.OK)
}

// P6.4: a path has 3 to MaxPath headers.
func TestLengthsOfPaths(t *testing.T) {
	for _, n := range []int{0, 1, 2} {
		checksCommit(t, draw(cut(n)), api.ErrForm)
	}
	var views []int64
	for n := 1; n <= 130; n++ {
		views = append(views, int64(7+n))
		want := api.OK
		if n < 3 || n > api.MaxPath {
			want = api.ErrForm
		}
		checksCommit(t, draw(withViews(views...)), want)
	}
}

// P6.4: views that start above 0, go up, and are consecutive among the last three, there alone.
func TestViewsOfPaths(t *testing.T) {
	for _, c := range []struct {
		views []int64
		want  api.Errno
	}{
		{[]int64{1, 2, 3}, api.OK},
		{[]int64{0, 1, 2}, api.ErrView},
		{[]int64{-1, 0, 1}, api.ErrView},
		{[]int64{0, 4, 5, 6}, api.ErrView},
		{[]int64{-5, 4, 5, 6}, api.ErrView},
		{[]int64{4, 6, 7}, api.ErrView},
		{[]int64{4, 5, 7}, api.ErrView},
		{[]int64{4, 6, 8}, api.ErrView},
		{[]int64{1, 3, 4, 5}, api.OK},
		{[]int64{1, 100, 1 << 40, 1<<40 + 1, 1<<40 + 2}, api.OK},
		{[]int64{1, 2, 4, 5}, api.ErrView},
		{[]int64{1, 2, 3, 5}, api.ErrView},
		{[]int64{1, 2, 3, 4, 6}, api.ErrView},
		{[]int64{1, 2, 4, 5, 6}, api.OK},
		{[]int64{4, 4, 5}, api.ErrView},
		{[]int64{4, 5, 5}, api.ErrView},
		{[]int64{4, 4, 5, 6}, api.ErrView},
		{[]int64{9, 4, 5, 6}, api.ErrView},
		{[]int64{2, 9, 4, 5, 6}, api.ErrView},
		{[]int64{6, 5, 4}, api.ErrView},
		{[]int64{math.MaxInt64 - 2, math.MaxInt64 - 1, math.MaxInt64}, api.OK},
		{[]int64{math.MaxInt64 - 1, math.MaxInt64, math.MinInt64}, api.ErrView},
		{[]int64{1, math.MaxInt64, math.MinInt64, math.MinInt64 + 1}, api.ErrView},
		{[]int64{math.MinInt64, 1, 2, 3}, api.ErrView},
	} {
		checksCommit(t, draw(withViews(c.views...)), c.want)
	}
}

// P6.4: heights go up by one, whatever they are, and do not begin anew behind the greatest.
func TestHeightsOfPaths(t *testing.T) {
	for _, c := range []struct {
		heights []int64
		want    api.Errno
	}{
		{[]int64{0, 1, 2}, api.OK},
		{[]int64{-2, -1, 0}, api.OK},
		{[]int64{math.MaxInt64 - 2, math.MaxInt64 - 1, math.MaxInt64}, api.OK},
		{[]int64{math.MaxInt64 - 1, math.MaxInt64, math.MinInt64}, api.ErrHeight},
		{[]int64{math.MaxInt64, math.MinInt64, math.MinInt64 + 1}, api.ErrHeight},
		{[]int64{5, 5, 6}, api.ErrHeight},
		{[]int64{5, 6, 6}, api.ErrHeight},
		{[]int64{5, 7, 8}, api.ErrHeight},
		{[]int64{5, 6, 8}, api.ErrHeight},
		{[]int64{5, 4, 3}, api.ErrHeight},
		{[]int64{5, 6, 5 + 1<<32}, api.ErrHeight},
	} {
		checksCommit(t, draw(withViews(4, 5, 6), fault{"heights", onHeaders, func(d *draft) {
			for i, height := range c.heights {
				d.at(i).Height = height
			}
		}}), c.want)
	}
}

// P6.4: the first header's Parent is anything, the others' are the digests of those before; what a header has changes its digest.
func TestParentsOfPaths(t *testing.T) {
	for _, parent := range []api.Digest{{}, hash("any")} {
		checksCommit(t, draw(fault{"first", onHeaders, func(d *draft) { d.at(0).Parent = parent }}), api.OK)
	}
	for i := range 5 {
		for _, change := range []func(h *api.Header){
			func(h *api.Header) { h.Txs[0]++ }, func(h *api.Header) { h.Root[0]++ }, func(h *api.Header) { h.Proposer++ },
		} {
			checksCommit(t, draw(fault{"with its child", onHeaders, func(d *draft) { change(d.at(i)) }}), api.OK)
			want := api.ErrParent
			if i == 4 {
				want = api.ErrQuorum
			}
			checksCommit(t, draw(after(func(d *draft) { change(d.at(i)) })), want)
		}
		if i == 0 {
			continue
		}
		for _, parent := range []api.Digest{{}, hash("any"), digest(headers()[0])} {
			checksCommit(t, draw(fault{"later", onParents, func(d *draft) { d.at(i).Parent = parent }}), api.ErrParent)
		}
	}
}

// P6.4: the certificate is for the last header, both its digest and its view, not for one before it.
func TestCertificateOfPaths(t *testing.T) {
	for i := range 5 {
		want := api.ErrQuorum
		if i == 4 {
			want = api.OK
		}
		checksCommit(t, draw(before(func(d *draft) { d.qc().Block, d.qc().View = digest(*d.at(i)), d.at(i).View })), want)
		checksCommit(t, draw(before(func(d *draft) { d.qc().Block = digest(*d.at(i)) })), want)
		checksCommit(t, draw(before(func(d *draft) { d.qc().View = d.at(i).View })), want)
	}
}

// P6.4: a valid certificate alone, or a valid path alone, is no commit.
func TestCommitsNeedBoth(t *testing.T) {
	d := draw(before(func(d *draft) { d.qc().Signers = []int{4, 5} }))
	checksCommit(t, d, api.ErrQuorum)
	d = draw(after(func(d *draft) { d.qc().Sigs[2].Index++ }))
	checksCommit(t, d, api.ErrSign)
	d = draw(after(func(d *draft) { d.fact.Commit.Path = nil }))
	checksCommit(t, d, api.ErrForm)
	checksQC(t, d, api.OK)
}

// P6.4: chains and epochs are held against those of the first header, the certificate's as well.
func TestChainsAndEpochsOfPaths(t *testing.T) {
	for i := range 5 {
		checksCommit(t, draw(onHeader("chain", i, func(h *api.Header) { h.Chain = twinChain })), api.ErrChain)
		checksCommit(t, draw(onHeader("epoch", i, func(h *api.Header) { h.Epoch++ })), api.ErrEpoch)
	}
	checksCommit(t, draw(before(func(d *draft) { d.qc().Chain = twinChain })), api.ErrChain)
	checksCommit(t, draw(before(func(d *draft) { d.qc().Epoch++ })), api.ErrEpoch)
	everywhere := fault{"everywhere", onHeaders, func(d *draft) {
		for i := range d.fact.Commit.Path {
			d.at(i).Chain = twinChain
		}
	}}
	checksCommit(t, draw(everywhere), api.ErrChain)
	checksCommit(t, draw(everywhere, before(func(d *draft) { d.qc().Chain = twinChain })), api.OK)
	inNext := before(func(d *draft) { d.qc().Epoch = 8 })
	nextRecord := after(func(d *draft) { d.rec().Epoch = 8 })
	allNext := fault{"everywhere", onHeaders, func(d *draft) { d.allEpochs(8) }}
	checksCommit(t, draw(allNext, inNext), api.ErrEpoch)
	checksCommit(t, draw(allNext, inNext, nextRecord), api.OK)
	checksCommit(t, draw(inNext, nextRecord), api.ErrEpoch)
}
