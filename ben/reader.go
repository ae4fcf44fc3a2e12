package ben

import (
	"bytes"
	"strconv"

	"watchfire/api"
)

const (
	longestInt    = 20 // bytes of the lowest number of 64 bits, its sign with them
	longestLength = 10 // bytes of mostLength
	mostLength    = 1_000_000_000
)

// Reader reads bytes that were laid, one thing behind the other. Its first error stays.
type Reader struct {
	left []byte
	err  api.Errno
}

// New makes a reader that stands ahead of b.
func New(b []byte) *Reader {
	return &Reader{left: bytes.Clone(b)}
}

// Int reads a number.
func (r *Reader) Int() int64 {
	if !r.take('i') {
		return 0
	}
	n, _ := r.number(longestInt, 'e')
	return n
}

// Text reads a text of at most so many bytes.
func (r *Reader) Text(most int) string {
	first, ok := r.first()
	if !ok {
		return ""
	}
	if first < '0' || first > '9' {
		r.fail(api.ErrForm)
		return ""
	}
	length, ok := r.number(longestLength, ':')
	if !ok {
		return ""
	}
	switch {
	case length > mostLength:
		r.fail(api.ErrForm)
		return ""
	case length > int64(most):
		r.fail(api.ErrLong)
		return ""
	case length > int64(len(r.left)):
		r.fail(api.ErrCut)
		return ""
	}
	text := string(r.left[:length])
	r.left = r.left[length:]
	return text
}

// Open reads a list's beginning.
func (r *Reader) Open() { r.take('l') }

// More tells whether a list goes on.
func (r *Reader) More() bool {
	return r != nil && len(r.left) > 0 && r.left[0] != 'e'
}

// Close reads a list's end.
func (r *Reader) Close() { r.take('e') }

// Left tells how many bytes are left.
func (r *Reader) Left() int {
	if r == nil {
		return 0
	}
	return len(r.left)
}

// Err tells the first error.
func (r *Reader) Err() api.Errno {
	if r == nil {
		return api.ErrNil
	}
	return r.err
}

// fail keeps an error. It is the first one, as no call goes past first behind it.
func (r *Reader) fail(err api.Errno) {
	r.left, r.err = nil, err
}

// first tells the byte that is to be read next; that there is none is an error.
func (r *Reader) first() (byte, bool) {
	if r == nil || r.err != api.OK {
		return 0, false
	}
	if len(r.left) == 0 {
		r.fail(api.ErrCut)
		return 0, false
	}
	return r.left[0], true
}

// take reads one byte, which must be this one.
func (r *Reader) take(want byte) bool {
	first, ok := r.first()
	if !ok {
		return false
	}
	if first != want {
		r.fail(api.ErrForm)
		return false
	}
	r.left = r.left[1:]
	return true
}

// number reads digits, and the byte that ends them. It takes them only as they are told again, so that a number is laid in one way alone.
func (r *Reader) number(most int, end byte) (int64, bool) {
	digits, ok := r.row(most, end)
	if !ok {
		return 0, false
	}
	n, err := strconv.ParseInt(digits, 10, 64)
	if err != nil || strconv.FormatInt(n, 10) != digits {
		r.fail(api.ErrForm)
		return 0, false
	}
	return n, true
}

// row reads up to a byte that ends it. It looks no further than a row may go, so that bytes without such an end are not gone through again and again.
func (r *Reader) row(most int, end byte) (string, bool) {
	at := bytes.IndexByte(r.left[:min(len(r.left), most+1)], end)
	if at < 0 {
		if len(r.left) > most {
			r.fail(api.ErrForm)
		} else {
			r.fail(api.ErrCut)
		}
		return "", false
	}
	row := string(r.left[:at])
	r.left = r.left[at+1:]
	return row, true
}
