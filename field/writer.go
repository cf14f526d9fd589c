package field

import (
	"towncrier/api"
	"towncrier/fault"
	"towncrier/utf"
	"towncrier/varint"
)

// Writer writes fields.
type Writer struct {
	bytes []byte
	err   error
}

// U8 writes a byte.
func (w *Writer) U8(n int) { w.number(n, 1) }

// U16 writes a number in two bytes.
func (w *Writer) U16(n int) { w.number(n, 2) }

// U32 writes a number in four bytes.
func (w *Writer) U32(n int) { w.number(n, 4) }

// Var writes a variable byte integer.
func (w *Writer) Var(n int) {
	if w.ended() {
		return
	}
	s, err := varint.Put(n)
	if err != nil {
		w.fail(err, 0)
		return
	}
	w.bytes = append(w.bytes, s...)
}

// Text writes a text with its length ahead.
func (w *Writer) Text(s string) {
	if w.ended() {
		return
	}
	if err := utf.Check(s); err != nil {
		w.fail(err, ahead)
		return
	}
	w.Bin(s)
}

// Bin writes bytes with their length ahead.
func (w *Writer) Bin(s string) {
	// A length that two bytes can't hold is the error of the whole, so the bytes are not written behind it.
	w.U16(len(s))
	w.Raw(s)
}

// Raw writes bytes as they are.
func (w *Writer) Raw(s string) {
	if !w.ended() {
		w.bytes = append(w.bytes, s...)
	}
}

// Bytes are all bytes, or the first error.
func (w *Writer) Bytes() (string, error) {
	if w == nil {
		return "", nil
	}
	if w.err != nil {
		return "", w.err
	}
	return string(w.bytes), nil
}

// ended tells whether nothing is written any more.
func (w *Writer) ended() bool {
	return w == nil || w.err != nil
}

// fail keeps an error that lies so many bytes behind what was written.
func (w *Writer) fail(err error, behind int) {
	w.err = fault.Deeper(err, len(w.bytes)+behind)
	w.bytes = nil
}

// number writes a number in 1, 2 or 4 bytes.
func (w *Writer) number(n, size int) {
	if w.ended() {
		return
	}
	if n < 0 || n >= 1<<(8*size) {
		w.fail(wrong(0, api.ErrTooLarge), 0)
		return
	}
	switch size {
	case 4:
		w.bytes = append(w.bytes, byte(n>>24), byte(n>>16))
		fallthrough
	case 2:
		w.bytes = append(w.bytes, byte(n>>8))
		fallthrough
	default:
		w.bytes = append(w.bytes, byte(n))
	}
}
