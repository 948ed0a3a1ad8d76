package sign_test

import (
	"math/rand"
	"slices"
	"strings"
	"testing"

	"wapentake/api"
	"wapentake/sign"
)

// hand is a signer, and what its next index must be.
type hand struct {
	s    *sign.Signer
	key  int
	next int64
}

// drill is calls at random, of a ring and of the reference: they must answer the same.
type drill struct {
	*testing.T
	random *rand.Rand
	ring   *sign.Ring
	want   reference
	hands  []hand
	sigs   []api.Sig // what was answered
}

func newDrill(t *testing.T, seed int64) *drill {
	random := rand.New(rand.NewSource(seed))
	want := reference{keys: 1 + random.Intn(4), budget: int64(1 + random.Intn(6))}
	return &drill{T: t, random: random, ring: ring(t, want.keys, want.budget), want: want}
}

// key returns a key that there is, or one next to them.
func (d *drill) key() int { return d.random.Intn(d.want.keys+2) - 1 }

// index returns an index that there is, or one next to them.
func (d *drill) index() int64 { return int64(d.random.Intn(int(d.want.budget)+2) - 1) }

// text returns one of four texts.
func (d *drill) text() string { return strings.Repeat("t", d.random.Intn(4)) }

func (d *drill) sign() {
	key, index, text := d.key(), d.index(), d.text()
	s, errno := d.ring.Sign(key, index, []byte(text))
	if want, wantErrno := d.want.sign(key, index, text); s != want || errno != wantErrno {
		d.Fatalf("Sign(%d, %d, %q): %x, %d, want %x, %d", key, index, text, s, errno, want, wantErrno)
	}
	d.sigs = append(d.sigs, s)
}

func (d *drill) newSigner() {
	key, next := d.key(), d.index()
	s := d.ring.Signer(key, next)
	if (s != nil) != (key >= 0 && key < d.want.keys) {
		d.Fatalf("Signer(%d, %d): one %v", key, next, s != nil)
	}
	if s != nil {
		d.hands = append(d.hands, hand{s, key, max(next, 0)})
	}
}

func (d *drill) signNext() {
	if len(d.hands) == 0 {
		return
	}
	h := &d.hands[d.random.Intn(len(d.hands))]
	text := d.text()
	s, errno := h.s.Sign([]byte(text))
	want, wantErrno := d.want.sign(h.key, h.next, text)
	if wantErrno == api.OK {
		h.next++
	}
	if s != want || errno != wantErrno || h.s.Next() != h.next {
		d.Fatalf("a signer of %d, %q: %x, %d, Next() %d, want %x, %d, %d", h.key, text, s, errno, h.s.Next(), want, wantErrno, h.next)
	}
	d.sigs = append(d.sigs, s)
}

func (d *drill) ask() {
	key, index, text := d.key(), d.index(), d.text()
	for _, s := range []api.Sig{sig(key, index, text), sig(d.key(), index, d.text())} {
		checks(d.T, d.ring, key, text, s, d.want.check(key, text, s))
	}
	has(d.T, d.ring, key, d.want.count(key), d.want.reused(key))
}

// run makes the calls, and returns the signatures that were answered.
func (d *drill) run(calls int) []api.Sig {
	for range calls {
		switch d.random.Intn(4) {
		case 0:
			d.sign()
		case 1:
			d.newSigner()
		case 2:
			d.signNext()
		case 3:
			d.ask()
		}
	}
	for key := -1; key <= d.want.keys; key++ {
		has(d.T, d.ring, key, d.want.count(key), d.want.reused(key))
	}
	return d.sigs
}

// P5.1 to P5.4, R4: calls in any order answer what the chapter's words say, and the same calls answer the same again.
func TestManyOrders(t *testing.T) {
	for seed := range int64(300) {
		if a, b := newDrill(t, seed).run(80), newDrill(t, seed).run(80); !slices.Equal(a, b) {
			t.Fatalf("seed %d: the same calls answer %x, and %x", seed, a, b)
		}
	}
}
