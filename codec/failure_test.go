package codec

import (
	"errors"
	"slices"
	"testing"

	"wapentake/api"
	"wapentake/sha"
)

// A decoding failure wraps its cause, and its text tells where it is.
func TestFailures(t *testing.T) {
	vote := Vote(api.Vote{})
	parts, _ := sha.Split(vote)
	parts[5] = sha.Join(number(int64(0)), nil) // the tag
	for _, c := range []struct {
		err   error
		cause error
		text  string
	}{
		{failureOf(decode("vote", make([]byte, api.MaxBytes+1), voteOf)), errLong, "vote: more than MaxBytes bytes"},
		{failureOf(decode("vote", vote[1:], voteOf)), errSplit, "vote: not a joined encoding"},
		{failureOf(decode("vote", sha.Join(parts[:5]...), voteOf)), errFew, "vote: fields are missing"},
		{failureOf(decode("vote", sha.Join(parts...), voteOf)), errSize, "vote: part 5: part 1: a wrong number of bytes"},
		{failureOf(decode("header", sha.Join(slices.Repeat([][]byte{number(1)}, 9)...), headerOf)), errSize, "header: part 4: a wrong number of bytes"},
		{failureOf(decode("record", sha.Join(number(0), sha.Join(), sha.Join(), nil), recordOf)), errMore, "record: more parts than fields"},
		{failureOf(decode("record", sha.Join(number(0), sha.Join(), sha.Join(sha.Join(), nil)), recordOf)), errSplit, "record: part 2: part 1: not a joined encoding"},
		{failureOf(decode("record", sha.Join(number(0), sha.Join(), sha.Join(sha.Join(number(1), nil))), recordOf)), errSize, "record: part 2: part 0: part 1: a wrong number of bytes"},
		{failureOf(decode("fact", sha.Join(Commit(api.Commit{}), make([]byte, 32), nil, []byte{2}, nil), factOf)), errBool, "fact: part 3: a bool that is neither 0 nor 1"},
	} {
		var f *failure
		if !errors.Is(c.err, c.cause) || !errors.As(c.err, &f) || f.Error() != c.text {
			t.Errorf("%v, want %s", c.err, c.text)
		}
	}
}

func failureOf[T any](_ T, err error) error { return err }

// What is not a failure is OK.
func TestClassify(t *testing.T) {
	for _, c := range []struct {
		err  error
		want api.Errno
	}{
		{nil, api.OK}, {fail("x", errLong), api.ErrBytes}, {fail("x", errSplit), api.ErrForm}, {fail("x", fail("y", errBool)), api.ErrForm},
	} {
		if x, e := classify(7, c.err); x != 7 || e != c.want {
			t.Errorf("%v: %d, want %d", c.err, e, c.want)
		}
	}
}
