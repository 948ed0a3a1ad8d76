package sha_test

import (
	"bytes"
	"encoding/binary"
	"math"
	"math/rand"
	"slices"
	"strings"
	"testing"

	"wapentake/sha"
)

// number returns n as a joined encoding has it.
func number(n uint64) string {
	return string(binary.BigEndian.AppendUint64(nil, n))
}

// parts returns texts as parts.
func parts(texts ...string) [][]byte {
	l := make([][]byte, 0, len(texts))
	for _, s := range texts {
		l = append(l, []byte(s))
	}
	return l
}

func sameParts(a, b [][]byte) bool {
	return slices.EqualFunc(a, b, bytes.Equal)
}

// lists are parts with their joined encodings.
func lists() []struct {
	parts [][]byte
	want  string
} {
	long := strings.Repeat("\x00\xff", 200)
	return []struct {
		parts [][]byte
		want  string
	}{
		{nil, number(0)},
		{parts(""), number(1) + number(0)},
		{parts("a", ""), number(2) + number(1) + "a" + number(0)},
		{parts("", "a"), number(2) + number(0) + number(1) + "a"},
		{parts("", "", ""), number(3) + number(0) + number(0) + number(0)},
		{parts("ab"), number(1) + number(2) + "ab"},
		{parts("a", "b"), number(2) + number(1) + "a" + number(1) + "b"},
		{parts(long, "x"), number(2) + number(400) + long + number(1) + "x"},
		{parts(number(0)), number(1) + number(8) + number(0)},
	}
}

// P1.2: Join, and Split of what it returns.
func TestJoinAndSplit(t *testing.T) {
	for _, c := range lists() {
		b := sha.Join(c.parts...)
		if string(b) != c.want {
			t.Errorf("Join of %q: %q, want %q", c.parts, b, c.want)
		}
		l, ok := sha.Split([]byte(c.want))
		if !ok || !sameParts(l, c.parts) {
			t.Errorf("Split of %q: %q, %v", c.want, l, ok)
		}
	}
}

// P1.2: a nil part is an empty one.
func TestJoinOfNilParts(t *testing.T) {
	if !bytes.Equal(sha.Join(nil, []byte("a"), nil), sha.Join([]byte{}, []byte("a"), []byte{})) {
		t.Error("a nil part and an empty one are joined differently")
	}
}

// P1.2: a count above 255 takes more than one byte, and so does a length.
func TestJoinOfManyParts(t *testing.T) {
	l := make([][]byte, 300)
	want := number(300)
	for i := range l {
		l[i] = sample(i)
		want += number(uint64(i)) + string(l[i])
	}
	b := sha.Join(l...)
	if string(b) != want {
		t.Error("Join of 300 parts is wrong")
	}
	if back, ok := sha.Split(b); !ok || !sameParts(back, l) {
		t.Error("Split of 300 parts is wrong")
	}
	wide := sample(1<<16 + 7)
	if b := sha.Join(wide); string(b) != number(1)+number(1<<16+7)+string(wide) {
		t.Error("Join of a wide part is wrong")
	}
}

// P1.2: bytes of which there are no parts.
func TestSplitRefuses(t *testing.T) {
	const most = uint64(math.MaxUint64)
	for _, s := range []string{
		"", "\x00", strings.Repeat("\x00", 7), strings.Repeat("\x00", 9),
		number(0) + number(0), number(0) + "a",
		number(1), number(1) + "\x00", number(1) + number(0)[:7],
		number(2) + number(0), number(2) + number(1) + "a", number(2) + number(0) + number(0)[:7],
		number(1) + number(1), number(1) + number(2) + "a",
		number(1) + number(1) + "ab", number(1) + number(0) + number(0),
		number(1) + number(0) + "a", number(2) + number(1) + "a" + number(0) + "\x00",
		number(2) + number(9) + "a" + number(0),
	} {
		refused(t, s)
	}
	for _, n := range []uint64{
		3, 1 << 31, 1 << 32, 1<<32 + 1, 1 << 60, 1 << 61, 1<<61 + 1, 1 << 63, 1<<63 - 1, 1<<63 + 1, most - 16, most - 8, most - 7, most - 1, most,
	} {
		refused(t, number(n))                              // a count of parts
		refused(t, number(n)+number(0)+number(0))          // of which some are there
		refused(t, number(n)+number(n)+number(n))          // and of bytes
		refused(t, number(1)+number(n))                    // a length
		refused(t, number(1)+number(n)+"a")                // of which some are there
		refused(t, number(2)+number(1)+"a"+number(n)+"bc") // behind a right part
		refused(t, number(2)+number(n)+"a"+number(0))      // before a right part
		refused(t, number(2)+number(n)+number(-n))         // and two whose sum is 0 modulo 2^64
	}
}

// refused tells of bytes that Split takes, and of parts beside false (R2).
func refused(t *testing.T, s string) {
	t.Helper()
	if l, ok := sha.Split([]byte(s)); ok || len(l) != 0 {
		t.Errorf("Split of %q: %d parts, %v", s, len(l), ok)
	}
}

// P1.2: no piece of an encoding, and nothing longer, is one.
func TestSplitOfCutAndLengthened(t *testing.T) {
	for _, c := range lists() {
		for n := range len(c.want) {
			refused(t, c.want[:n])
		}
		for _, more := range []string{"\x00", "a", number(0), number(1) + "a"} {
			refused(t, c.want+more)
		}
	}
	if _, ok := sha.Split(nil); ok {
		t.Error("Split of nil is true")
	}
}

// P1.2: Split is true only of bytes that Join returns for its parts.
func checkSplit(t *testing.T, b []byte) {
	t.Helper()
	before := bytes.Clone(b)
	l, ok := sha.Split(b)
	if !bytes.Equal(b, before) {
		t.Fatalf("Split changed its argument %q", before)
	}
	if ok && !bytes.Equal(sha.Join(l...), b) {
		t.Errorf("Split of %q returns %q, which is joined otherwise", b, l)
	}
	if !ok && len(l) != 0 {
		t.Errorf("Split of %q: false, with parts", b)
	}
}

// P1.2, R1: encodings in which bytes are changed.
func TestSplitOfChanged(t *testing.T) {
	random := rand.New(rand.NewSource(1))
	for range 20000 {
		b := sha.Join(randomParts(random)...)
		for range random.Intn(3) {
			b[random.Intn(len(b))] = byte(random.Intn(4) - 1)
		}
		checkSplit(t, b)
	}
}

func FuzzSplit(f *testing.F) {
	for _, c := range lists() {
		f.Add([]byte(c.want))
	}
	f.Add([]byte(number(1) + number(math.MaxUint64)))
	f.Fuzz(func(t *testing.T, b []byte) { checkSplit(t, b) })
}

func randomParts(random *rand.Rand) [][]byte {
	l := make([][]byte, random.Intn(4))
	for i := range l {
		l[i] = make([]byte, random.Intn(10))
		for j := range l[i] {
			l[i][j] = byte(random.Intn(3))
		}
	}
	return l
}

// P1.4: Split of Join returns the parts, and different lists have different encodings.
func TestJoinTellsListsApart(t *testing.T) {
	random := rand.New(rand.NewSource(2))
	seen := map[string][][]byte{}
	for range 20000 {
		l := randomParts(random)
		b := sha.Join(l...)
		if back, ok := sha.Split(b); !ok || !sameParts(back, l) {
			t.Fatalf("%q are split as %q, %v", l, back, ok)
		}
		if other, ok := seen[string(b)]; ok && !sameParts(other, l) {
			t.Fatalf("%q and %q have one encoding", l, other)
		}
		seen[string(b)] = l
	}
}

// P1.2: Of is Sum of Join.
func TestOf(t *testing.T) {
	for _, c := range lists() {
		if sha.Of(c.parts...) != sha.Sum([]byte(c.want)) {
			t.Errorf("Of %q is not Sum of Join", c.parts)
		}
	}
	checkDigest(t, "Of()", sha.Of(), "af5570f5a1810b7af78caf4bc70a660f0df51e42baf91d4de5b2328de0e83dfc")
	if sha.Of([]byte("ab")) == sha.Of([]byte("a"), []byte("b")) || sha.Of() == sha.Of(nil) || sha.Of(nil) == sha.Of(nil, nil) {
		t.Error("different lists have one digest")
	}
}

// R3: neither Join nor Of changes its parts, nor what stands behind them.
func TestPartsAreNotChanged(t *testing.T) {
	text := []byte("one|two|three")
	l := [][]byte{text[:3], text[4:7], text[8:]}
	first := sha.Join(l...)
	sha.Of(l...)
	if string(text) != "one|two|three" || !sameParts(l, parts("one", "two", "three")) {
		t.Errorf("parts were changed: %q", text)
	}
	if !bytes.Equal(sha.Join(l...), first) || sha.Of(l...) != sha.Sum(first) {
		t.Error("the same call has another result (R4)")
	}
}

// R3: what Join returns shares no memory with its parts.
func TestJoinSharesNoMemory(t *testing.T) {
	for _, c := range lists() {
		l := slices.Clone(c.parts)
		for i := range l {
			l[i] = bytes.Clone(l[i])
		}
		b := sha.Join(l...)
		for i := range l {
			clear(l[i][:cap(l[i])])
			l[i] = nil
		}
		if string(b) != c.want {
			t.Errorf("the encoding of %q changed with its parts", c.parts)
		}
	}
	l := parts("abc")
	clear(sha.Join(l...))
	if string(l[0]) != "abc" {
		t.Error("a part changed with its encoding")
	}
}

// R3: what Split returns shares no memory with the argument, nor part with part.
func TestSplitSharesNoMemory(t *testing.T) {
	want := parts("one", "", "three", "four")
	b := sha.Join(want...)
	l, _ := sha.Split(b)
	clear(b)
	if !sameParts(l, want) {
		t.Error("parts changed with the bytes they were split of")
	}
	b = sha.Join(want...)
	for i := range want {
		l, _ := sha.Split(b)
		part := l[i][:cap(l[i])] // what append to the part would reach, too
		for j := range part {
			part[j] = '!'
		}
		for j := range l {
			if j != i && !bytes.Equal(l[j], want[j]) {
				t.Errorf("part %d changed with part %d", j, i)
			}
		}
		if !bytes.Equal(b, sha.Join(want...)) {
			t.Errorf("the argument changed with part %d", i)
		}
	}
	x, _ := sha.Split(b)
	y, _ := sha.Split(b)
	clear(x[0])
	x[1] = nil
	if !sameParts(y, want) {
		t.Error("two results share memory")
	}
}
