package varint_test

import (
	"math"
	"strings"
	"testing"

	"towncrier/varint"
)

// told is what an error says, nothing for nil.
func told(e error) string {
	if e == nil {
		return ""
	}
	return e.Error()
}

// taken fails the test unless s begins with n, which has so many bytes; or has the fault.
func taken(t *testing.T, s string, n, size int, wrong string) {
	t.Helper()
	if got, many, err := varint.Take(s); got != n || many != size || told(err) != wrong {
		t.Errorf("Take(% x) = %d, %d, %q; want %d, %d, %q", s, got, many, told(err), n, size, wrong)
	}
}

// numbers are those at the edges, and the bytes that they have.
func numbers() (map[int]string, []int) {
	m := map[int]string{
		0: "\x00", 1: "\x01", 2: "\x02", 127: "\x7f",
		128: "\x80\x01", 129: "\x81\x01", 255: "\xff\x01", 256: "\x80\x02", 321: "\xc1\x02", 16383: "\xff\x7f",
		16384: "\x80\x80\x01", 16385: "\x81\x80\x01", 2097151: "\xff\xff\x7f",
		2097152: "\x80\x80\x80\x01", 2097153: "\x81\x80\x80\x01", 1<<28 - 1: "\xff\xff\xff\x7f",
	}
	l := []int{0, 1, 2, 127, 128, 129, 255, 256, 321, 16383, 16384, 16385, 2097151, 2097152, 2097153, 1<<28 - 1}
	return m, l
}

// Va1: the bytes of a number, and how many they are; the chapter's example is 321.
func TestPut(t *testing.T) {
	m, l := numbers()
	for _, n := range l {
		if s, err := varint.Put(n); s != m[n] || err != nil {
			t.Errorf("Put(%d) = % x, %v; want % x", n, s, err, m[n])
		}
		if size := varint.Size(n); size != len(m[n]) {
			t.Errorf("Size(%d) = %d, want %d", n, size, len(m[n]))
		}
	}
}

// Va1: numbers that have no bytes.
func TestPutOutside(t *testing.T) {
	for _, n := range []int{-1, -2, -128, -1 << 28, math.MinInt, 1 << 28, 1<<28 + 1, 1 << 32, 1<<32 + 5, 1 << 35, math.MaxInt} {
		if s, err := varint.Put(n); s != "" || told(err) != "too large, reason 129, at 0" {
			t.Errorf("Put(%d) = % x, %q", n, s, told(err))
		}
		if size := varint.Size(n); size != 0 {
			t.Errorf("Size(%d) = %d", n, size)
		}
	}
}

// Va2: what Take returns, whatever follows.
func TestTake(t *testing.T) {
	m, l := numbers()
	for _, n := range l {
		for _, more := range []string{"", "\x00", "\x01", "\x80", "\xff\xff\xff\xff\xff", "text"} {
			taken(t, m[n]+more, n, len(m[n]), "")
		}
	}
}

// Va2: fewer than four bytes, none of which is the last one.
func TestTakeShort(t *testing.T) {
	taken(t, "", 0, 0, "too few bytes, reason 129, at 0")
	for _, s := range []string{"\x80", "\xff", "\x81"} {
		taken(t, s, 0, 0, "too few bytes, reason 129, at 1")
		taken(t, s+"\x80", 0, 0, "too few bytes, reason 129, at 2")
		taken(t, s+"\xff", 0, 0, "too few bytes, reason 129, at 2")
		taken(t, s+"\x80\xff", 0, 0, "too few bytes, reason 129, at 3")
		taken(t, s+"\x80\x80", 0, 0, "too few bytes, reason 129, at 3")
	}
}

// Va2: four bytes, none of which is the last one.
func TestTakeTooMany(t *testing.T) {
	for _, s := range []string{"\x80\x80\x80\x80", "\xff\xff\xff\xff", "\x80\x80\x80\x80\x01", "\x81\x80\x80\xff\x00", "\xff\xff\xff\x80" + strings.Repeat("\x80", 99)} {
		taken(t, s, 0, 0, "malformed, reason 129, at 3")
	}
}

// Va2: more bytes than are necessary.
func TestTakeNeedless(t *testing.T) {
	for _, more := range []string{"", "\x00", "\x01", "\x80\x80\x80\x80"} {
		taken(t, "\x00"+more, 0, 1, "")
		for _, first := range []string{"\x80", "\x81", "\xff"} {
			taken(t, first+"\x00"+more, 0, 0, "malformed, reason 129, at 1")
			taken(t, first+"\x80\x00"+more, 0, 0, "malformed, reason 129, at 2")
			taken(t, first+"\xff\x00"+more, 0, 0, "malformed, reason 129, at 2")
			taken(t, first+"\x80\x80\x00"+more, 0, 0, "malformed, reason 129, at 3")
			taken(t, first+"\xff\xff\x00"+more, 0, 0, "malformed, reason 129, at 3")
		}
	}
}

// Va3: what is put is taken, whatever follows; cut off, it is too short, so that no number's bytes begin another one's.
func TestReadBack(t *testing.T) {
	for n := 0; n < 1<<28; n += 1 + n/50 {
		s, err := varint.Put(n)
		if err != nil || len(s) != varint.Size(n) {
			t.Fatalf("Put(%d) = % x, %v; Size %d", n, s, err, varint.Size(n))
		}
		taken(t, s, n, len(s), "")
		taken(t, s+"\x80\x00", n, len(s), "")
		for i := range len(s) {
			taken(t, s[:i], 0, 0, "too few bytes, reason 129, at "+string(rune('0'+i)))
		}
	}
}

// Va3: what Take accepts is what Put writes.
func TestWrittenBack(t *testing.T) {
	for i := range 1 << 16 {
		s := string([]byte{byte(i >> 8), byte(i), 0x80, 0x01})
		n, size, err := varint.Take(s)
		if err != nil {
			continue
		}
		if b, err := varint.Put(n); b != s[:size] || err != nil {
			t.Fatalf("Take(% x) = %d, %d; Put = % x, %v", s, n, size, b, err)
		}
	}
}
