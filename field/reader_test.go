package field_test

import (
	"fmt"
	"math"
	"math/rand"
	"testing"

	"towncrier/field"
)

// Fd2: each field, and what the reader says between them.
func TestReader(t *testing.T) {
	s := "\x07\x01\x02\x01\x02\x03\x04\xc1\x02\x00\x01a\x00\x02\x00\xffxyz\x80rest"
	r := field.New(s)
	at := 0
	moved := func(by int) {
		t.Helper()
		at += by
		state(t, r, at, len(s)-at, "")
	}
	moved(0)
	if n := r.U8(); n != 7 {
		t.Errorf("U8() = %d", n)
	}
	moved(1)
	if n := r.U16(); n != 0x102 {
		t.Errorf("U16() = %#x", n)
	}
	moved(2)
	if n := r.U32(); n != 0x1020304 {
		t.Errorf("U32() = %#x", n)
	}
	moved(4)
	if n := r.Var(); n != 321 {
		t.Errorf("Var() = %d", n)
	}
	moved(2)
	if x := r.Text(); x != "a" {
		t.Errorf("Text() = %q", x)
	}
	moved(3)
	if x := r.Bin(); x != "\x00\xff" {
		t.Errorf("Bin() = %q", x)
	}
	moved(4)
	if x := r.Raw(0); x != "" {
		t.Errorf("Raw(0) = %q", x)
	}
	moved(0)
	if x := r.Raw(3); x != "xyz" {
		t.Errorf("Raw(3) = %q", x)
	}
	moved(3)
	if err := r.Done(); told(err) != "malformed, reason 129, at 19" {
		t.Errorf("Done() = %q", told(err))
	}
	moved(0)
	if x := r.Rest(); x != "\x80rest" {
		t.Errorf("Rest() = %q", x)
	}
	moved(5)
	if x := r.Rest() + r.Raw(0); x != "" || r.Done() != nil {
		t.Errorf("at the end: %q, %v", x, r.Done())
	}
	moved(0)
	r.U8()
	stuck(t, r, 24, 0, "too few bytes, reason 129, at 24")
}

// Fd2: the greatest numbers, and the longest text and bytes.
func TestReaderEdges(t *testing.T) {
	if n := field.New("\xff").U8(); n != 255 {
		t.Errorf("U8() = %d", n)
	}
	if n := field.New("\xff\xff").U16(); n != 65535 {
		t.Errorf("U16() = %d", n)
	}
	if n := field.New("\xff\xfe\xfd\xfc").U32(); n != 0xfffefdfc {
		t.Errorf("U32() = %#x", n)
	}
	if n := field.New("\xff\xff\xff\x7f").Var(); n != 1<<28-1 {
		t.Errorf("Var() = %d", n)
	}
	r := field.New("ab")
	if r.U8(); told(r.Done()) != "malformed, reason 129, at 1" {
		t.Errorf("Done() with one byte left = %q", told(r.Done()))
	}
	if r.U8(); r.Done() != nil {
		t.Errorf("Done() at the end = %v", r.Done())
	}
	if s := field.New("\xff\xff" + long(65536)).Text(); s != long(65535) {
		t.Errorf("Text() has %d bytes", len(s))
	}
	if s := field.New("\xff\xff" + long(65536)).Bin(); s != long(65535) {
		t.Errorf("Bin() has %d bytes", len(s))
	}
	if s := field.New(long(100000)).Raw(99999); s != long(99999) {
		t.Errorf("Raw(99999) has %d bytes", len(s))
	}
}

// Fd2: what can't be read, at the beginning, and behind other bytes, whose number its place is increased by.
func TestReaderRefuses(t *testing.T) {
	const short, bad, large = "too few bytes, reason 129, at ", "malformed, reason 129, at ", "too large, reason 129, at "
	u8 := func(r *field.Reader) (int, string) { return r.U8(), "" }
	u16 := func(r *field.Reader) (int, string) { return r.U16(), "" }
	u32 := func(r *field.Reader) (int, string) { return r.U32(), "" }
	variable := func(r *field.Reader) (int, string) { return r.Var(), "" }
	text := func(r *field.Reader) (int, string) { return 0, r.Text() }
	bin := func(r *field.Reader) (int, string) { return 0, r.Bin() }
	raw := func(n int) func(r *field.Reader) (int, string) {
		return func(r *field.Reader) (int, string) { return 0, r.Raw(n) }
	}
	for _, x := range []struct {
		s          string
		read       func(r *field.Reader) (int, string)
		zero, five string
	}{
		{"", u8, short + "0", short + "5"},
		{"", u16, short + "0", short + "5"},
		{"a", u16, short + "1", short + "6"},
		{"", u32, short + "0", short + "5"},
		{"abc", u32, short + "3", short + "8"},
		{"", variable, short + "0", short + "5"},
		{"\x80\x81", variable, short + "2", short + "7"},
		{"\x80\x80\x80\x80", variable, bad + "3", bad + "8"},
		{"\x80\x80\x00\x01", variable, bad + "2", bad + "7"},
		{"", text, short + "0", short + "5"},
		{"\x00", text, short + "1", short + "6"},
		{"\x00\x01", text, short + "2", short + "7"},
		{"\x00\x04a\x00\x00", text, short + "5", short + "10"},
		{"\xff\xff" + long(65534), text, short + "65536", short + "65541"},
		{"\x00\x01\x00\x00", text, bad + "2", bad + "7"},
		{"\x00\x03ab\xc3\xb6", text, bad + "4", bad + "9"},
		{"", bin, short + "0", short + "5"},
		{"\x00", bin, short + "1", short + "6"},
		{"\x00\x04abc", bin, short + "5", short + "10"},
		{"", raw(1), short + "0", short + "5"},
		{"abc", raw(4), short + "3", short + "8"},
		{"abc", raw(math.MaxInt), short + "3", short + "8"},
		{"abc", raw(-1), large + "0", large + "5"},
		{"abc", raw(math.MinInt), large + "0", large + "5"},
		{"", raw(-1), large + "0", large + "5"},
	} {
		for at, want := range map[int]string{0: x.zero, 5: x.five} {
			r := field.New(long(at) + x.s)
			r.Raw(at)
			if n, s := x.read(r); n != 0 || s != "" {
				t.Errorf("% x: reads %d, %q", x.s, n, s)
			}
			stuck(t, r, at, len(x.s), want)
		}
	}
}

// Fd2: a reader without bytes, and nil.
func TestNoBytes(t *testing.T) {
	var zero field.Reader
	state(t, &zero, 0, 0, "")
	if zero.Rest() != "" || zero.Done() != nil {
		t.Error("a zero reader has something left")
	}
	zero.U8()
	stuck(t, &zero, 0, 0, "too few bytes, reason 129, at 0")
	var none *field.Reader
	stuck(t, none, 0, 0, "")
}

// kinds is how many kinds of fields there are in what put writes.
const kinds = 7

// put writes a field of a kind, and returns how its reading differs from it, if it does.
func put(w *field.Writer, rnd *rand.Rand, kind int) func(r *field.Reader) bool {
	texts := []string{"", "a", "\u00f6/\u20ac", "\U0001f4e2", long(300)}
	n := int(uint32(rnd.Uint64())) >> rnd.Intn(32)
	s := texts[rnd.Intn(len(texts))]
	switch kind {
	case 0:
		w.U8(n & 255)
		return func(r *field.Reader) bool { return r.U8() != n&255 }
	case 1:
		w.U16(n & 65535)
		return func(r *field.Reader) bool { return r.U16() != n&65535 }
	case 2:
		w.U32(n)
		return func(r *field.Reader) bool { return r.U32() != n }
	case 3:
		w.Var(n >> 4)
		return func(r *field.Reader) bool { return r.Var() != n>>4 }
	case 4:
		w.Text(s)
		return func(r *field.Reader) bool { return r.Text() != s }
	case 5:
		w.Bin(s + "\x00\xff")
		return func(r *field.Reader) bool { return r.Bin() != s+"\x00\xff" }
	}
	w.Raw(s + "\xfe")
	return func(r *field.Reader) bool { return r.Raw(len(s)+1) != s+"\xfe" }
}

// Fd3: what is written is read back in the same order; cut off anywhere, it is too short.
func TestReadBack(t *testing.T) {
	rnd := rand.New(rand.NewSource(4))
	for range 300 {
		var w field.Writer
		var reads []func(r *field.Reader) bool
		for range rnd.Intn(9) {
			reads = append(reads, put(&w, rnd, rnd.Intn(kinds)))
		}
		s, err := w.Bytes()
		if err != nil {
			t.Fatal(err)
		}
		r := field.New(s)
		for i, differs := range reads {
			if differs(r) {
				t.Fatalf("% x: field %d is not read back", s, i)
			}
		}
		if r.Done() != nil || r.At() != len(s) {
			t.Fatalf("% x: %v at %d", s, r.Done(), r.At())
		}
		for cut := range len(s) {
			r := field.New(s[:cut])
			for _, differs := range reads {
				differs(r)
			}
			if want := fmt.Sprint("too few bytes, reason 129, at ", cut); told(r.Err()) != want {
				t.Fatalf("% x cut to %d: %q", s, cut, told(r.Err()))
			}
		}
	}
}
