package sign_test

import (
	"encoding/hex"
	"math"
	"strings"
	"testing"

	"wapentake/api"
	"wapentake/sign"
)

// The chapter's table of examples.
func TestExamples(t *testing.T) {
	r := ring(t, 2, 3)
	it := signs(t, r, 0, 2, "a")
	refuses(t, r, 0, 3, "a", api.ErrBudget)
	refuses(t, r, 2, 0, "a", api.ErrRange)
	checks(t, r, 0, "a", it, true)
	checks(t, r, 0, "b", it, false)
	checks(t, r, 1, "a", it, false)
	signs(t, r, 0, 2, "b")
	has(t, r, 0, 2, true)
	s := signer(t, r, 1, 2)
	signsNext(t, s, 1, 2, "x")
	refusesNext(t, s, 3, "y")
}

// P5.1: there are rings of 1 to MaxValidators keys and budgets of 1 to MaxBudget, and no others.
func TestNew(t *testing.T) {
	wide := int64(1) << 32
	for _, keys := range []int{math.MinInt, -int(wide), -1, 0, 1, 2, 11, 12, 13, 255, 256, 257, 65537, int(wide), int(wide) + 1, math.MaxInt} {
		for _, budget := range []int64{math.MinInt64, -wide, -1, 0, 1, 2, 65535, 65536, 65537, wide, wide + 1, math.MaxInt64} {
			r := sign.New(keys, budget)
			want := keys >= 1 && keys <= api.MaxValidators && budget >= 1 && budget <= api.MaxBudget
			if (r != nil) != want {
				t.Errorf("New(%d, %d): a ring %v", keys, budget, r != nil)
			}
		}
	}
}

// P5.1, P5.2: a new ring has no signings; it has the keys and the indices that it was made with, and no others.
func TestKeysAndIndices(t *testing.T) {
	for keys := 1; keys <= api.MaxValidators; keys++ {
		for _, budget := range []int64{1, 2, 3, 255, 256, 257, 65535, 65536} {
			r := ring(t, keys, budget)
			for key := range keys {
				has(t, r, key, 0, false)
				checks(t, r, key, "", api.Sig{}, false)
				checks(t, r, key, "a", sig(key, 0, "a"), false)
			}
			for key := range keys {
				refuses(t, r, key, -1, "a", api.ErrBudget)
				refuses(t, r, key, budget, "a", api.ErrBudget)
				has(t, r, key, 0, false)
				made := map[int64]bool{0: true, budget / 2: true, budget - 1: true}
				for index := range made {
					checks(t, r, key, "a", signs(t, r, key, index, "a"), true)
				}
				has(t, r, key, len(made), false)
			}
			refuses(t, r, -1, 0, "a", api.ErrRange)
			refuses(t, r, keys, 0, "a", api.ErrRange)
		}
	}
}

// P5.2: tags that another program worked out.
func TestKnownTags(t *testing.T) {
	r := ring(t, api.MaxValidators, api.MaxBudget)
	for _, c := range []struct {
		key   int
		index int64
		text  string
		tag   string
	}{
		{0, 2, "a", "771f64b29ef9cebad5a45ae26bfab93e316bb83abd4d8171bdbcea2cab77bc69"},
		{0, 2, "b", "420811c4d7e09c1b2e7ff75ab648701214a93d37b157f9fc4f36e9dc35bd152a"},
		{1, 2, "x", "8a8718309a46df3ebdfb323a51122179fe18f4402a05c2a16809deaca5741881"},
		{0, 0, "", "1547a84a6d4ec76f335746c225e32e348bc7bca2ce17cb12718d1cb5e982fc47"},
		{11, 65535, "wapentake", "9f704eabe638a0e97eb40998010d9f70d0d35923c5bbf5cbccffaa0085061837"},
		{1, 258, "\xff\x00", "1955e4603980bf76c1e6f22b3b42662c1c8b1f857b2abdfc8c8d22c928623993"},
		{0, 0, strings.Repeat("a", 100), "2111aa3d5d4d23629b3876d84c1ee29ab0658bc9fdddc4826c4fe18f158729ea"},
	} {
		s, errno := r.Sign(c.key, c.index, []byte(c.text))
		if hex.EncodeToString(s.Tag[:]) != c.tag || s.Index != c.index || errno != api.OK {
			t.Errorf("Sign(%d, %d, %q): %x, %d", c.key, c.index, brief(c.text), s, errno)
		}
	}
}

// P5.2, P5.3: the same signing made again is no other one, whatever was made in between.
func TestSameSigningAgain(t *testing.T) {
	r := ring(t, 3, 5)
	for range 3 {
		signs(t, r, 1, 4, "again")
		has(t, r, 1, 1, false)
	}
	signs(t, r, 1, 3, "again")
	signs(t, r, 2, 4, "again")
	signs(t, r, 1, 4, "again")
	has(t, r, 1, 2, false)
	has(t, r, 2, 1, false)
	signs(t, r, 1, 4, "another")
	has(t, r, 1, 3, true)
	signs(t, r, 1, 4, "again")
	signs(t, r, 1, 4, "another")
	has(t, r, 1, 3, true)
	has(t, r, 2, 1, false)
	has(t, r, 0, 0, false)
}

// P5.3: a key is reused by two texts of one index alone: not by one text of two indices, nor by two keys of one index.
func TestReused(t *testing.T) {
	r := ring(t, 4, 10)
	for index := range int64(10) {
		signs(t, r, 0, index, "the same")
		signs(t, r, 1, index, "text "+string(rune('0'+index)))
		signs(t, r, 2, 0, "text "+string(rune('0'+index)))
	}
	has(t, r, 0, 10, false)
	has(t, r, 1, 10, false)
	has(t, r, 2, 10, true)
	has(t, r, 3, 0, false)
	signs(t, r, 3, 9, "")
	has(t, r, 3, 1, false)
	signs(t, r, 3, 9, "\x00")
	has(t, r, 3, 2, true)
	signs(t, r, 3, 8, "\x00")
	has(t, r, 3, 3, true)
	has(t, r, 0, 10, false)
	has(t, r, 1, 10, false)
}

// P5.3, P5.5: both signatures of an index that was used twice are valid, each for its own text.
func TestBothTextsOfAnIndex(t *testing.T) {
	r := ring(t, 1, 1)
	a, b := signs(t, r, 0, 0, "a"), signs(t, r, 0, 0, "b")
	checks(t, r, 0, "a", a, true)
	checks(t, r, 0, "b", b, true)
	checks(t, r, 0, "a", b, false)
	checks(t, r, 0, "b", a, false)
	has(t, r, 0, 2, true)
}

// texts are such as differ in little.
func texts() []string {
	long := strings.Repeat("long text ", 20000)
	l := []string{"", "\x00", "\x00\x00", "a", "A", "a\x00", "\x00a", "aa", "ab", "ba", "\xff", "\xfe", "\xff\xff", "\ufffd", "é", "e\u0301", "sign",
		long, long + " ", long + "!", "!" + long, strings.Repeat("x", 1<<20)}
	for n := 50; n < 70; n++ {
		l = append(l, strings.Repeat("-", n))
	}
	return l
}

// P5.2, P5.3: texts are told apart byte by byte, an empty one and long ones as well.
func TestTexts(t *testing.T) {
	l := texts()
	r := ring(t, 2, 2)
	sigs := map[string]api.Sig{}
	for i, text := range l {
		checks(t, r, 1, text, sig(1, 1, text), false)
		sigs[text] = signs(t, r, 1, 1, text)
		has(t, r, 1, i+1, i > 0)
	}
	for _, a := range l {
		for _, b := range l {
			if got := r.Check(1, []byte(a), sigs[b]); got != (a == b) {
				t.Fatalf("the signature of %q for %q: %v", brief(b), brief(a), got)
			}
		}
	}
	has(t, r, 0, 0, false)
}

// P5.2, P5.3: nil is the empty text.
func TestNilText(t *testing.T) {
	r := ring(t, 1, 2)
	a, _ := r.Sign(0, 0, nil)
	if a != sig(0, 0, "") || !r.Check(0, []byte{}, a) || !r.Check(0, nil, a) {
		t.Fatalf("nil: %x", a)
	}
	signs(t, r, 0, 0, "")
	has(t, r, 0, 1, false)
}

// P5.3, P5.5: a signature is valid for its key, its index and its text alone.
func TestOtherSignatures(t *testing.T) {
	r := ring(t, 3, 3)
	for key := range 3 {
		for index := range int64(3) {
			signs(t, r, key, index, "both")
			signs(t, r, key, index, "text "+string(rune('0'+int(index)+3*key)))
		}
	}
	s := sig(1, 1, "both")
	checks(t, r, 1, "both", s, true)
	for _, other := range []api.Sig{
		{}, {Index: 1}, {Tag: s.Tag}, {Index: 2, Tag: s.Tag}, {Index: -1, Tag: s.Tag}, {Index: 1 + 1<<32, Tag: s.Tag},
		{Index: math.MaxInt64, Tag: s.Tag}, {Index: math.MinInt64, Tag: s.Tag},
		{Index: 1, Tag: tag(1, 2, "both")}, {Index: 1, Tag: tag(2, 1, "both")}, {Index: 1, Tag: tag(1, 1, "text 4")},
	} {
		checks(t, r, 1, "both", other, false)
	}
	for key := -1; key < 5; key++ {
		checks(t, r, key, "both", s, key == 1)
	}
	checks(t, r, 1, "text 4", s, false)
	checks(t, r, 1, "none", s, false)
	for bit := range 256 {
		other := s
		other.Tag[bit/8] ^= 1 << (bit % 8)
		checks(t, r, 1, "both", other, false)
	}
	checks(t, r, 1, "both", s, true)
}

// P5.3: the right tag alone is no signature: the signing must have been made, by this ring, at this index and key.
func TestSignaturesThatWereNotMade(t *testing.T) {
	r := ring(t, 2, 4)
	signs(t, r, 0, 1, "made")
	for key := -1; key < 3; key++ {
		for index := int64(-1); index < 6; index++ {
			for _, text := range []string{"made", "not made", ""} {
				made := key == 0 && index == 1 && text == "made"
				checks(t, r, key, text, sig(key, index, text), made)
			}
		}
	}
	checks(t, r, 0, "made", api.Sig{}, false)
	has(t, r, 0, 1, false)
	has(t, r, 1, 0, false)
}

// P5.3: Check answers for what was made until then; a signature that is made later is valid from then on.
func TestSignatureThatIsMadeLater(t *testing.T) {
	r := ring(t, 2, 4)
	s := sig(1, 3, "later")
	for range 2 {
		checks(t, r, 1, "later", s, false)
	}
	refuses(t, r, 1, 4, "later", api.ErrBudget)
	refuses(t, r, 2, 3, "later", api.ErrRange)
	signs(t, r, 1, 3, "sooner")
	signs(t, r, 0, 3, "later")
	checks(t, r, 1, "later", s, false)
	has(t, r, 1, 1, false)
	signs(t, r, 1, 3, "later")
	checks(t, r, 1, "later", s, true)
	signs(t, r, 1, 2, "last")
	checks(t, r, 1, "later", s, true)
}

// P5.2: ErrRange comes before ErrBudget, and what is refused changes nothing.
func TestRefusals(t *testing.T) {
	r := ring(t, 2, 3)
	signs(t, r, 1, 2, "a")
	wide := int64(1) << 32
	for _, key := range []int{math.MinInt, -int(wide), -2, -1, 0, 1, 2, 3, 12, 256, int(wide), int(wide) + 1, math.MaxInt} {
		for _, index := range []int64{math.MinInt64, -wide, -2, -1, 0, 2, 3, 4, 256, 65535, 65536, wide, wide + 1, math.MaxInt64} {
			switch {
			case key < 0 || key > 1:
				refuses(t, r, key, index, "a", api.ErrRange)
			case index < 0 || index > 2:
				refuses(t, r, key, index, "a", api.ErrBudget)
			default:
				continue
			}
			checks(t, r, key, "a", sig(key, index, "a"), false)
		}
	}
	has(t, r, 0, 0, false)
	has(t, r, 1, 1, false)
}

// P5.3: of keys that there are not, nothing was made, nor reused.
func TestKeysThatThereAreNot(t *testing.T) {
	for _, keys := range []int{1, 2, 12} {
		r := ring(t, keys, 2)
		for key := range keys {
			signs(t, r, key, 0, "a")
			signs(t, r, key, 0, "b")
		}
		for _, key := range []int{math.MinInt, -1 << 32, -12, -1, keys, keys + 1, 12, 13, 256, 1 << 32, 1<<32 + 1, math.MaxInt} {
			has(t, r, key, 0, false)
			for _, text := range []string{"a", "b", ""} {
				checks(t, r, key, text, sig(0, 0, "a"), false)
				checks(t, r, key, text, sig(key, 0, text), false)
				checks(t, r, key, text, api.Sig{}, false)
			}
		}
	}
}

// P5.3, P5.5: rings are apart: what one of them signed, another one has not signed, until it does, too.
func TestRingsAreApart(t *testing.T) {
	a, b := ring(t, 2, 3), ring(t, 2, 3)
	s := signs(t, a, 0, 1, "text")
	checks(t, b, 0, "text", s, false)
	has(t, b, 0, 0, false)
	if s != signs(t, b, 0, 1, "text") {
		t.Fatal("a signing has another signature in another ring")
	}
	checks(t, b, 0, "text", s, true)
	signs(t, b, 0, 1, "other")
	has(t, a, 0, 1, false)
	has(t, b, 0, 2, true)
	checks(t, a, 0, "other", sig(0, 1, "other"), false)
	mine, yours := signer(t, a, 1, 0), signer(t, b, 1, 0)
	signsNext(t, mine, 1, 0, "x")
	signsNext(t, mine, 1, 1, "y")
	signsNext(t, yours, 1, 0, "z")
	has(t, a, 1, 2, false)
	has(t, b, 1, 1, false)
	small := ring(t, 1, 1)
	signs(t, a, 1, 2, "both")
	refuses(t, small, 1, 2, "both", api.ErrRange)
	refuses(t, small, 0, 2, "both", api.ErrBudget)
}

// P5.2, P5.3: all indices of a key, and as many texts of one index.
func TestManySignings(t *testing.T) {
	r := ring(t, 2, api.MaxBudget)
	for index := range int64(api.MaxBudget) {
		if _, errno := r.Sign(0, index, []byte("text")); errno != api.OK {
			t.Fatalf("index %d: %d", index, errno)
		}
		if _, errno := r.Sign(1, 7, []byte(num(index))); errno != api.OK {
			t.Fatalf("text %d: %d", index, errno)
		}
	}
	refuses(t, r, 0, api.MaxBudget, "text", api.ErrBudget)
	has(t, r, 0, api.MaxBudget, false)
	has(t, r, 1, api.MaxBudget, true)
	for index := int64(0); index < api.MaxBudget; index += 997 {
		checks(t, r, 0, "text", sig(0, index, "text"), true)
		checks(t, r, 1, num(index), sig(1, 7, num(index)), true)
	}
}
