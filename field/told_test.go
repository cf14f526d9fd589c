package field_test

import (
	"strings"
	"testing"

	"towncrier/field"
)

// told is what an error says, nothing for nil.
func told(e error) string {
	if e == nil {
		return ""
	}
	return e.Error()
}

// long is a text of so many bytes.
func long(n int) string { return strings.Repeat("x", n) }

// written fails the test unless the writer has these bytes, and no error.
func written(t *testing.T, w *field.Writer, want string) {
	t.Helper()
	if s, err := w.Bytes(); s != want || err != nil {
		t.Errorf("Bytes() = % .60x, %v; want % .60x", s, err, want)
	}
}

// refused fails the test unless the writer has the error, and keeps it whatever is written then.
func refused(t *testing.T, w *field.Writer, want string) {
	t.Helper()
	for _, next := range []func(){
		func() {}, func() { w.U8(1) }, func() { w.U16(-1) }, func() { w.U32(3) }, func() { w.Var(4) }, func() { w.Var(-1) },
		func() { w.Text("a") }, func() { w.Text("\x00") }, func() { w.Bin("b") }, func() { w.Bin(long(65536)) }, func() { w.Raw("c") },
	} {
		next()
		if s, err := w.Bytes(); s != "" || told(err) != want {
			t.Errorf("Bytes() = % .60x, %q; want %q", s, told(err), want)
		}
	}
}

// state fails the test unless the reader is there, and has the error, or none.
func state(t *testing.T, r *field.Reader, at, left int, want string) {
	t.Helper()
	if r.At() != at || r.Left() != left || told(r.Err()) != want {
		t.Errorf("At() = %d, Left() = %d, Err() = %q; want %d, %d, %q", r.At(), r.Left(), told(r.Err()), at, left, want)
	}
}

// stuck fails the test unless the reader has the error, and reads nothing any more.
func stuck(t *testing.T, r *field.Reader, at, left int, want string) {
	t.Helper()
	for range 2 {
		state(t, r, at, left, want)
		if told(r.Done()) != want {
			t.Errorf("Done() = %q, want %q", told(r.Done()), want)
		}
		if n := r.U8() + r.U16() + r.U32() + r.Var(); n != 0 {
			t.Errorf("reads numbers that are %d", n)
		}
		if s := r.Text() + r.Bin() + r.Raw(0) + r.Raw(1) + r.Raw(-1) + r.Rest(); s != "" {
			t.Errorf("reads % x", s)
		}
	}
}
