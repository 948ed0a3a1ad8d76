package sign_test

import (
	"math"
	"math/rand"
	"testing"

	"wapentake/api"
)

// P5.4: there is a signer of each key, and of no other.
func TestSignersOfKeys(t *testing.T) {
	for _, keys := range []int{1, 2, 11, 12} {
		r := ring(t, keys, 2)
		for key := range keys {
			s := signer(t, r, key, 1)
			signsNext(t, s, key, 1, "text")
			has(t, r, key, 1, false)
		}
		for _, key := range []int{math.MinInt, -1 << 32, -keys, -1, keys, keys + 1, 13, 256, 1 << 32, 1<<32 + 1, math.MaxInt} {
			for _, next := range []int64{math.MinInt64, -1, 0, 1, 2, 3, math.MaxInt64} {
				if s := r.Signer(key, next); s != nil {
					t.Errorf("%d keys: Signer(%d, %d): a signer", keys, key, next)
				}
			}
		}
	}
}

// P5.4: the next index is what it was said to be, but at least 0.
func TestNext(t *testing.T) {
	for _, c := range []struct{ next, want int64 }{
		{math.MinInt64, 0}, {-1 << 32, 0}, {-2, 0}, {-1, 0}, {0, 0}, {1, 1}, {2, 2}, {3, 3}, {4, 4}, {65536, 65536},
		{1 << 32, 1 << 32}, {1<<32 + 1, 1<<32 + 1}, {math.MaxInt64 - 1, math.MaxInt64 - 1}, {math.MaxInt64, math.MaxInt64},
	} {
		r := ring(t, 2, 3)
		s := signer(t, r, 1, c.next)
		if s.Next() != c.want || s.Next() != c.want {
			t.Errorf("Signer(1, %d): Next() %d", c.next, s.Next())
		}
		for index := c.want; index < 3; index++ {
			signsNext(t, s, 1, index, "text")
		}
		for range 3 {
			refusesNext(t, s, max(c.want, 3), "text")
		}
		has(t, r, 1, int(max(3-c.want, 0)), false)
		has(t, r, 0, 0, false)
	}
}

// P5.4: a signer signs with each index up to the last one, and then with none, whatever the budget is.
func TestSignerUpToTheBudget(t *testing.T) {
	for _, budget := range []int64{1, 2, 255, 256, 65535, 65536} {
		r := ring(t, 1, budget)
		s := signer(t, r, 0, -5)
		for index := range budget {
			if got, errno := s.Sign([]byte("text")); got.Index != index || errno != api.OK {
				t.Fatalf("index %d: %x, %d", index, got, errno)
			}
		}
		for range 3 {
			refusesNext(t, s, budget, "text")
			refusesNext(t, s, budget, "other")
		}
		has(t, r, 0, int(budget), false)
		checks(t, r, 0, "text", sig(0, budget-1, "text"), true)
		checks(t, r, 0, "text", sig(0, budget, "text"), false)
	}
}

// P5.4: what a signer signs is what the ring signs: it is recorded as any other signing.
func TestSignerSignsInItsRing(t *testing.T) {
	r := ring(t, 3, 4)
	s := signer(t, r, 1, 1)
	a := signsNext(t, s, 1, 1, "a")
	b := signsNext(t, s, 1, 2, "")
	checks(t, r, 1, "a", a, true)
	checks(t, r, 1, "", b, true)
	checks(t, r, 1, "a", b, false)
	checks(t, r, 0, "a", a, false)
	has(t, r, 1, 2, false)
	signs(t, r, 1, 1, "a")
	has(t, r, 1, 2, false)
	signs(t, r, 1, 3, "b")
	if s.Next() != 3 {
		t.Fatalf("the ring's own signing moved a signer to %d", s.Next())
	}
	signsNext(t, s, 1, 3, "c")
	has(t, r, 1, 4, true)
	refusesNext(t, s, 4, "d")
	has(t, r, 1, 4, true)
}

// P5.4: signers of one key know nothing of each other.
func TestSignersOfOneKey(t *testing.T) {
	r := ring(t, 2, 4)
	a, b, c := signer(t, r, 0, 0), signer(t, r, 0, 0), signer(t, r, 1, 0)
	signsNext(t, a, 0, 0, "same")
	signsNext(t, b, 0, 0, "same")
	has(t, r, 0, 1, false)
	signsNext(t, a, 0, 1, "one")
	signsNext(t, c, 1, 0, "two")
	has(t, r, 0, 2, false)
	signsNext(t, b, 0, 1, "two")
	has(t, r, 0, 3, true)
	has(t, r, 1, 1, false)
	signsNext(t, b, 0, 2, "three")
	signsNext(t, b, 0, 3, "four")
	refusesNext(t, b, 4, "five")
	signsNext(t, a, 0, 2, "three")
	if a.Next() != 3 || b.Next() != 4 || c.Next() != 1 {
		t.Fatalf("the next indices: %d, %d, %d", a.Next(), b.Next(), c.Next())
	}
}

// P5.5: signers of a key, one after the other, each from the previous one's next index on or a later one, never reuse it.
func TestSignersNeverReuse(t *testing.T) {
	for seed := range int64(200) {
		random := rand.New(rand.NewSource(seed))
		r := ring(t, 2, int64(1+random.Intn(40)))
		type signature struct {
			text string
			s    api.Sig
		}
		var all []signature
		s := signer(t, r, 1, int64(random.Intn(3)-1))
		for step := range int64(60) {
			if random.Intn(4) == 0 {
				s = signer(t, r, 1, s.Next()+int64(random.Intn(3)))
			}
			text := "text " + num(step)
			if got, errno := s.Sign([]byte(text)); errno == api.OK {
				all = append(all, signature{text, got})
			}
			has(t, r, 1, len(all), false)
		}
		for i, a := range all {
			if i > 0 && a.s.Index <= all[i-1].s.Index {
				t.Fatalf("seed %d: the index %d after %d", seed, a.s.Index, all[i-1].s.Index)
			}
			for _, b := range all {
				checks(t, r, 1, b.text, a.s, a == b)
				checks(t, r, 0, b.text, a.s, false)
			}
		}
	}
}

// P5.5: a signer that starts earlier than the previous one ended does reuse the key, if it signs another text.
func TestSignerThatStartsTooEarly(t *testing.T) {
	r := ring(t, 1, 8)
	first := signer(t, r, 0, 0)
	for index, text := range []string{"a", "b", "c"} {
		signsNext(t, first, 0, int64(index), text)
	}
	second := signer(t, r, 0, first.Next()-1)
	signsNext(t, second, 0, 2, "c")
	has(t, r, 0, 3, false)
	third := signer(t, r, 0, second.Next()-1)
	signsNext(t, third, 0, 2, "d")
	has(t, r, 0, 4, true)
}
