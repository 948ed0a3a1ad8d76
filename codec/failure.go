package codec

import "errors"

// What can be wrong with bytes that are to be decoded.
var (
	errLong  = errors.New("more than MaxBytes bytes")
	errSplit = errors.New("not a joined encoding")
	errFew   = errors.New("fields are missing")
	errMore  = errors.New("more parts than fields")
	errSize  = errors.New("a wrong number of bytes")
	errWide  = errors.New("a number that is out of range")
	errBool  = errors.New("a bool that is neither 0 nor 1")
)

// failure is an error in what is decoded: it wraps its cause, and tells the place as well.
type failure struct {
	text  string
	cause error
}

// fail returns the failure of a place for a cause.
func fail(place string, cause error) error {
	return &failure{text: place + ": " + cause.Error(), cause: cause}
}

func (f *failure) Error() string { return f.text }

func (f *failure) Unwrap() error { return f.cause }
