package field_test

import (
	"math"
	"testing"

	"towncrier/field"
)

// Fd1: each field, at the edges of its numbers; the chapter's example is the text a.
func TestWriter(t *testing.T) {
	for _, x := range []struct {
		write func(w *field.Writer)
		want  string
	}{
		{func(w *field.Writer) {}, ""},
		{func(w *field.Writer) { w.U8(0) }, "\x00"},
		{func(w *field.Writer) { w.U8(1) }, "\x01"},
		{func(w *field.Writer) { w.U8(255) }, "\xff"},
		{func(w *field.Writer) { w.U16(0) }, "\x00\x00"},
		{func(w *field.Writer) { w.U16(0x102) }, "\x01\x02"},
		{func(w *field.Writer) { w.U16(0x80ff) }, "\x80\xff"},
		{func(w *field.Writer) { w.U16(65535) }, "\xff\xff"},
		{func(w *field.Writer) { w.U32(0) }, "\x00\x00\x00\x00"},
		{func(w *field.Writer) { w.U32(0x1020304) }, "\x01\x02\x03\x04"},
		{func(w *field.Writer) { w.U32(0xfffefdfc) }, "\xff\xfe\xfd\xfc"},
		{func(w *field.Writer) { w.U32(1<<32 - 1) }, "\xff\xff\xff\xff"},
		{func(w *field.Writer) { w.Var(0) }, "\x00"},
		{func(w *field.Writer) { w.Var(321) }, "\xc1\x02"},
		{func(w *field.Writer) { w.Var(1<<28 - 1) }, "\xff\xff\xff\x7f"},
		{func(w *field.Writer) { w.Text("a") }, "\x00\x01a"},
		{func(w *field.Writer) { w.Text("") }, "\x00\x00"},
		{func(w *field.Writer) { w.Text("\u20ac") }, "\x00\x03\u20ac"},
		{func(w *field.Writer) { w.Text(long(300)) }, "\x01\x2c" + long(300)},
		{func(w *field.Writer) { w.Text(long(65535)) }, "\xff\xff" + long(65535)},
		{func(w *field.Writer) { w.Bin("") }, "\x00\x00"},
		{func(w *field.Writer) { w.Bin("\x00\xff") }, "\x00\x02\x00\xff"},
		{func(w *field.Writer) { w.Bin(long(65535)) }, "\xff\xff" + long(65535)},
		{func(w *field.Writer) { w.Raw("") }, ""},
		{func(w *field.Writer) { w.Raw("\x00\xffb") }, "\x00\xffb"},
		{func(w *field.Writer) { w.Raw(long(65536)) }, long(65536)},
		{func(w *field.Writer) { w.Raw(long(200000)) }, long(200000)},
	} {
		var w field.Writer
		x.write(&w)
		written(t, &w, x.want)
		w.Raw("+")
		written(t, &w, x.want+"+")
		x.write(&w)
		written(t, &w, x.want+"+"+x.want)
	}
}

// Fd1: numbers that are too small or too great, texts and bytes that are too long, texts that are none.
func TestWriterRefuses(t *testing.T) {
	const at0, at3 = "too large, reason 129, at 0", "too large, reason 129, at 3"
	for _, x := range []struct {
		write     func(w *field.Writer)
		zero, at3 string
	}{
		{func(w *field.Writer) { w.U8(-1) }, at0, at3},
		{func(w *field.Writer) { w.U8(256) }, at0, at3},
		{func(w *field.Writer) { w.U8(math.MinInt) }, at0, at3},
		{func(w *field.Writer) { w.U8(math.MaxInt) }, at0, at3},
		{func(w *field.Writer) { w.U16(-1) }, at0, at3},
		{func(w *field.Writer) { w.U16(65536) }, at0, at3},
		{func(w *field.Writer) { w.U16(math.MinInt) }, at0, at3},
		{func(w *field.Writer) { w.U16(math.MaxInt) }, at0, at3},
		{func(w *field.Writer) { w.U32(-1) }, at0, at3},
		{func(w *field.Writer) { w.U32(1 << 32) }, at0, at3},
		{func(w *field.Writer) { w.U32(math.MinInt) }, at0, at3},
		{func(w *field.Writer) { w.U32(math.MaxInt) }, at0, at3},
		{func(w *field.Writer) { w.Var(-1) }, at0, at3},
		{func(w *field.Writer) { w.Var(1 << 28) }, at0, at3},
		{func(w *field.Writer) { w.Var(math.MinInt) }, at0, at3},
		{func(w *field.Writer) { w.Var(math.MaxInt) }, at0, at3},
		{func(w *field.Writer) { w.Bin(long(65536)) }, at0, at3},
		{func(w *field.Writer) { w.Bin(long(1 << 20)) }, at0, at3},
		{func(w *field.Writer) { w.Text(long(65536)) }, "too large, reason 129, at 65537", "too large, reason 129, at 65540"},
		{func(w *field.Writer) { w.Text("\x00" + long(65536)) }, "too large, reason 129, at 65537", "too large, reason 129, at 65540"},
		{func(w *field.Writer) { w.Text("\xff") }, "malformed, reason 129, at 2", "malformed, reason 129, at 5"},
		{func(w *field.Writer) { w.Text("ab\x00") }, "malformed, reason 129, at 4", "malformed, reason 129, at 7"},
		{func(w *field.Writer) { w.Text(long(65534) + "\xc3") }, "malformed, reason 129, at 65536", "malformed, reason 129, at 65539"},
	} {
		var first, later field.Writer
		x.write(&first)
		refused(t, &first, x.zero)
		later.U8(1)
		later.U16(2)
		x.write(&later)
		refused(t, &later, x.at3)
	}
}

// Fd1: the place of an error counts all bytes that were written, of whichever fields.
func TestWriterPlace(t *testing.T) {
	var w field.Writer
	w.U8(1)
	w.U16(2)
	w.U32(3)
	w.Var(128)
	w.Text("abc")
	w.Bin("\x00")
	w.Raw("xyz")
	written(t, &w, "\x01\x00\x02\x00\x00\x00\x03\x80\x01\x00\x03abc\x00\x01\x00xyz")
	w.Text("\xff")
	refused(t, &w, "malformed, reason 129, at 22")
}

// Fd1: the bytes that were returned stay as they were.
func TestWriterBytesAgain(t *testing.T) {
	var w field.Writer
	w.Raw("abc")
	s, _ := w.Bytes()
	w.Raw("def")
	u, _ := w.Bytes()
	written(t, &w, "abcdef")
	if s != "abc" || u != "abcdef" {
		t.Errorf("Bytes() = %q, then %q", s, u)
	}
	w.U8(-1)
	refused(t, &w, "too large, reason 129, at 6")
}

// Fd2: nothing is written to nil.
func TestNilWriter(t *testing.T) {
	var w *field.Writer
	for _, write := range []func(){
		func() {}, func() { w.U8(1) }, func() { w.U8(-1) }, func() { w.U16(1) }, func() { w.U16(-1) }, func() { w.U32(1) }, func() { w.U32(-1) }, func() { w.Var(1) }, func() { w.Var(-1) },
		func() { w.Text("a") }, func() { w.Text("\x00") }, func() { w.Bin("a") }, func() { w.Bin(long(65536)) }, func() { w.Raw("a") },
	} {
		write()
		written(t, w, "")
	}
}
