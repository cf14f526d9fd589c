package frame_test

import (
	"math"
	"slices"
	"strings"
	"testing"

	"towncrier/api"
	"towncrier/frame"
)

// bad is what the fault of a first byte that is not valid says.
const bad = "malformed, reason 129, at 0"

// told is what an error says, nothing for nil.
func told(e error) string {
	if e == nil {
		return ""
	}
	return e.Error()
}

// firsts are the first bytes that are valid.
func firsts() []int {
	return []int{
		0x10, 0x20, 0x30, 0x31, 0x32, 0x33, 0x34, 0x35, 0x3a, 0x3b, 0x3c, 0x3d,
		0x40, 0x50, 0x62, 0x70, 0x82, 0x90, 0xa2, 0xb0, 0xc0, 0xd0, 0xe0, 0xf0,
	}
}

// Fm1: all numbers near those of bytes.
func TestCheck(t *testing.T) {
	for first := -600; first < 900; first++ {
		want := bad
		if slices.Contains(firsts(), first) {
			want = ""
		}
		if err := frame.Check(first); told(err) != want {
			t.Errorf("Check(%#x) = %q, want %q", first, told(err), want)
		}
	}
	for _, first := range []int{math.MinInt, math.MinInt + 0x10, -1 << 32, 1 << 32, 1<<32 + 0x10, 1<<62 + 0x10, math.MaxInt} {
		if err := frame.Check(first); told(err) != bad {
			t.Errorf("Check(%#x) = %q", first, told(err))
		}
	}
}

// Fm1: the bytes of a packet; the chapter's example is a Pingreq.
func TestPut(t *testing.T) {
	for _, x := range []struct {
		f    api.Frame
		want string
	}{
		{api.Frame{First: 0xc0}, "\xc0\x00"},
		{api.Frame{First: 0xe0, Body: "\x8e"}, "\xe0\x01\x8e"},
		{api.Frame{First: 0x3d, Body: "\x00\xff"}, "\x3d\x02\x00\xff"},
		{api.Frame{First: 0x30, Body: strings.Repeat("x", 127)}, "\x30\x7f" + strings.Repeat("x", 127)},
		{api.Frame{First: 0x30, Body: strings.Repeat("x", 128)}, "\x30\x80\x01" + strings.Repeat("x", 128)},
		{api.Frame{First: 0x30, Body: strings.Repeat("x", 65536)}, "\x30\x80\x80\x04" + strings.Repeat("x", 65536)},
	} {
		if s, err := frame.Put(x.f); s != x.want || err != nil {
			t.Errorf("Put(%#x, %d bytes) = % .20x, %v", x.f.First, len(x.f.Body), s, err)
		}
	}
	for _, first := range firsts() {
		if s, err := frame.Put(api.Frame{First: first, Body: "ab"}); s != string([]byte{byte(first), 2, 'a', 'b'}) || err != nil {
			t.Errorf("Put(%#x) = % x, %v", first, s, err)
		}
	}
}

// Fm1: frames that are no packets.
func TestPutRefuses(t *testing.T) {
	for _, first := range []int{0, 0x0f, 0x11, 0x36, 0x38, 0x60, 0x80, -1, -0x40, 0x110, 0x1c0, math.MaxInt, math.MinInt} {
		for _, body := range []string{"", "ab"} {
			if s, err := frame.Put(api.Frame{First: first, Body: body}); s != "" || told(err) != bad {
				t.Errorf("Put(%#x) = % x, %q", first, s, told(err))
			}
		}
	}
}

// Fm1: the longest body, and longer ones; the first byte precedes its length.
func TestPutLongest(t *testing.T) {
	s := strings.Repeat("x", 1<<28+1)
	if p, err := frame.Put(api.Frame{First: 0x30, Body: s[:1<<28-1]}); len(p) != 1<<28+4 || p[:5] != "\x30\xff\xff\xff\x7f" || err != nil {
		t.Errorf("Put of the longest = %d bytes, %v", len(p), err)
	}
	for _, n := range []int{1 << 28, 1<<28 + 1} {
		if p, err := frame.Put(api.Frame{First: 0x30, Body: s[:n]}); p != "" || told(err) != "too large, reason 149, at 0" {
			t.Errorf("Put of %d bytes = %d bytes, %q", n, len(p), told(err))
		}
		if p, err := frame.Put(api.Frame{First: 0x36, Body: s[:n]}); p != "" || told(err) != bad {
			t.Errorf("Put of %d bytes = %d bytes, %q", n, len(p), told(err))
		}
	}
}
