package field

import (
	"towncrier/api"
	"towncrier/fault"
	"towncrier/utf"
	"towncrier/varint"
)

// Reader reads fields.
type Reader struct {
	bytes string
	at    int
	err   error
}

// New reads fields of bytes.
func New(s string) *Reader { return &Reader{bytes: s} }

// U8 reads a byte.
func (r *Reader) U8() int { return r.number(1) }

// U16 reads a number of two bytes.
func (r *Reader) U16() int { return r.number(2) }

// U32 reads a number of four bytes.
func (r *Reader) U32() int { return r.number(4) }

// Var reads a variable byte integer.
func (r *Reader) Var() int {
	if r.ended() {
		return 0
	}
	n, size, err := varint.Take(r.bytes[r.at:])
	if err != nil {
		r.err = fault.Deeper(err, r.at)
		return 0
	}
	r.at += size
	return n
}

// Text reads a text with its length ahead.
func (r *Reader) Text() string {
	start := r.At()
	s := r.Bin()
	if err := utf.Check(s); err != nil {
		r.at, r.err = start, fault.Deeper(err, start+ahead)
		return ""
	}
	return s
}

// Bin reads bytes with their length ahead.
func (r *Reader) Bin() string {
	start := r.At()
	s := r.take(r.U16())
	if r.Err() != nil {
		// A length without its bytes was not read either.
		r.at = start
	}
	return s
}

// Raw reads so many bytes.
func (r *Reader) Raw(n int) string {
	if n < 0 && !r.ended() {
		r.err = wrong(r.at, api.ErrTooLarge)
	}
	return r.take(n)
}

// Rest reads all that is left.
func (r *Reader) Rest() string { return r.take(r.Left()) }

// At is how many bytes were read, and Left how many are left.
func (r *Reader) At() int {
	if r == nil {
		return 0
	}
	return r.at
}

// Left is the other one.
func (r *Reader) Left() int {
	if r == nil {
		return 0
	}
	return len(r.bytes) - r.at
}

// Err is the first error.
func (r *Reader) Err() error {
	if r == nil {
		return nil
	}
	return r.err
}

// Done is the first error; also that bytes are left.
func (r *Reader) Done() error {
	if err := r.Err(); err != nil {
		return err
	}
	if r.Left() > 0 {
		return wrong(r.At(), api.ErrMalformed)
	}
	return nil
}

// ended tells whether nothing is read any more.
func (r *Reader) ended() bool {
	return r == nil || r.err != nil
}

// take reads so many bytes, of which there may be too few.
func (r *Reader) take(n int) string {
	if r.ended() {
		return ""
	}
	if n > r.Left() {
		r.err = wrong(len(r.bytes), api.ErrShort)
		return ""
	}
	s := r.bytes[r.at : r.at+n]
	r.at += n
	return s
}

// number reads a number of so many bytes.
func (r *Reader) number(size int) int {
	n := 0
	s := r.take(size)
	for i := range len(s) {
		n = n<<8 | int(s[i])
	}
	return n
}
