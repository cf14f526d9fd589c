package utf_test

import (
	"fmt"
	"math/rand"
	"strings"
	"testing"
	"unicode/utf8"

	"towncrier/utf"
)

// told is what an error says, nothing for nil.
func told(e error) string {
	if e == nil {
		return ""
	}
	return e.Error()
}

// malformed is what the fault at a place says.
func malformed(at int) string { return fmt.Sprint("malformed, reason 129, at ", at) }

// tooLarge is what the fault of too many bytes says.
const tooLarge = "too large, reason 129, at 65535"

// is fails the test unless s is a text of so many letters.
func is(t *testing.T, s string, letters int) {
	t.Helper()
	if err := utf.Check(s); err != nil {
		t.Errorf("Check(%.40q) = %v", s, err)
	}
	if n := utf.Cut(s); n != len(s) {
		t.Errorf("Cut(%.40q) = %d, want %d", s, n, len(s))
	}
	if n, err := utf.Letters(s); n != letters || err != nil {
		t.Errorf("Letters(%.40q) = %d, %v; want %d", s, n, err, letters)
	}
}

// isNot fails the test unless s is no text from a place on.
func isNot(t *testing.T, s string, at int) {
	t.Helper()
	if err := utf.Check(s); told(err) != malformed(at) {
		t.Errorf("Check(% .40x) = %q, want %q", s, told(err), malformed(at))
	}
	if n := utf.Cut(s); n != at {
		t.Errorf("Cut(% .40x) = %d, want %d", s, n, at)
	}
	if n, err := utf.Letters(s); n != 0 || told(err) != malformed(at) {
		t.Errorf("Letters(% .40x) = %d, %q, want %q", s, n, told(err), malformed(at))
	}
}

// Ut1: texts, with characters of each length and at the edges of each.
func TestTexts(t *testing.T) {
	is(t, "", 0)
	is(t, "a", 1)
	is(t, "\x01", 1)
	is(t, "\x7f", 1)
	is(t, "\xc2\x80", 1)
	is(t, "\xdf\xbf", 1)
	is(t, "\xe0\xa0\x80", 1)
	is(t, "\xed\x9f\xbf", 1)
	is(t, "\xee\x80\x80", 1)
	is(t, "\xef\xbb\xbf", 1)
	is(t, "\xef\xbf\xbf", 1)
	is(t, "\xf0\x90\x80\x80", 1)
	is(t, "\xf4\x8f\xbf\xbf", 1)
	is(t, "t\u00f6w\u20acn\U0001f4e2", 6)
}

// Ut1: what is no character, wherever it is; the chapter's example is c0 80.
func TestNoTexts(t *testing.T) {
	for _, bad := range []string{
		"\x00", "\x80", "\xbf", "\xc0", "\xc0\x80", "\xc1\xbf", "\xc2", "\xc2a", "\xc2\x7f", "\xc2\xc0", "\xc2\x00",
		"\xe0\x80\x80", "\xe0\x9f\xbf", "\xe2", "\xe2\x82", "\xe2\x82a", "\xe2a\x82", "\xe2\x82\xc0", "\xed\xa0\x80", "\xed\xaf\xbf", "\xed\xb0\x80", "\xed\xbf\xbf",
		"\xf0\x80\x80\x80", "\xf0\x8f\xbf\xbf", "\xf0\x90", "\xf0\x90\x80", "\xf0\x90\x80a", "\xf0a\x80\x80", "\xf4\x90\x80\x80", "\xf5\x80\x80\x80", "\xf7\xbf\xbf\xbf",
		"\xf8\x88\x80\x80\x80", "\xfc\x84\x80\x80\x80\x80", "\xfe", "\xff", "\xff\xff\xff\xff",
	} {
		isNot(t, bad, 0)
		isNot(t, "a"+bad, 1)
		isNot(t, "\u20ac\u00f6"+bad, 5)
		isNot(t, "\U0001f4e2"+bad+"\x00", 4)
		isNot(t, bad+bad, 0)
		isNot(t, bad+"\u20ac", 0)
	}
}

// Ut1: each number, with the bytes that it would have, is a character or none.
func TestEachNumber(t *testing.T) {
	for n := range 0x120000 {
		s := string([]byte{0xf0 | byte(n>>18), 0x80 | byte(n>>12)&0x3f, 0x80 | byte(n>>6)&0x3f, 0x80 | byte(n)&0x3f})
		least := 0x10000
		switch {
		case n < 0x80:
			s, least = string([]byte{byte(n)}), 1
		case n < 0x800:
			s, least = string([]byte{0xc0 | byte(n>>6), 0x80 | byte(n)&0x3f}), 0x80
		case n < 0x10000:
			s, least = string([]byte{0xe0 | byte(n>>12), 0x80 | byte(n>>6)&0x3f, 0x80 | byte(n)&0x3f}), 0x800
		}
		want := len(s)
		if n < least || n >= 0xd800 && n < 0xe000 || n > 0x10ffff {
			want = 0
		}
		if at := utf.Cut(s); at != want {
			t.Fatalf("Cut of %#x (% x) = %d, want %d", n, s, at, want)
		}
	}
}

// Ut1: up to 65535 bytes, and no more.
func TestLimit(t *testing.T) {
	is(t, strings.Repeat("a", 65534), 65534)
	is(t, strings.Repeat("a", 65535), 65535)
	is(t, strings.Repeat("\u20ac", 21845), 21845)
	isNot(t, strings.Repeat("a", 65534)+"\x00", 65534)
	isNot(t, strings.Repeat("a", 65534)+"\xc3", 65534)
	for s, cut := range map[string]int{
		strings.Repeat("a", 65536):                65536,
		strings.Repeat("a", 70000):                70000,
		strings.Repeat("a", 65535) + "\x00":       65535,
		"\x00" + strings.Repeat("a", 65535):       0,
		strings.Repeat("\u00f6", 32768):           65536,
		strings.Repeat("a", 65534) + "\u00f6":     65536,
		strings.Repeat("a", 65535) + "\u00f6\xff": 65537,
	} {
		if err := utf.Check(s); told(err) != tooLarge {
			t.Errorf("Check of %d bytes = %q", len(s), told(err))
		}
		if n, err := utf.Letters(s); n != 0 || told(err) != tooLarge {
			t.Errorf("Letters of %d bytes = %d, %q", len(s), n, told(err))
		}
		if n := utf.Cut(s); n != cut {
			t.Errorf("Cut of %d bytes = %d, want %d", len(s), n, cut)
		}
	}
}

// expected is how many first bytes of s are those of characters, and how many characters, as the library decodes them.
func expected(s string) (at, letters int) {
	for at < len(s) {
		r, n := utf8.DecodeRuneInString(s[at:])
		if r == 0 || r == utf8.RuneError && n <= 1 {
			break
		}
		at, letters = at+n, letters+1
	}
	return at, letters
}

// Ut1: all strings of up to three bytes, and some of four, of bytes at the edges.
func TestAgainstLibrary(t *testing.T) {
	edges := "\x00\x01a\x7f\x80\x8f\x90\x9f\xa0\xbf\xc0\xc1\xc2\xdf\xe0\xe1\xec\xed\xee\xef\xf0\xf1\xf3\xf4\xf5\xf7\xf8\xff"
	l := []string{""}
	for range 4 {
		var next []string
		for _, s := range l {
			for i := range len(edges) {
				next = append(next, s+edges[i:i+1])
			}
		}
		for _, s := range next {
			at, letters := expected(s)
			if at < len(s) {
				isNot(t, s, at)
			} else {
				is(t, s, letters)
			}
		}
		l = next
		if t.Failed() {
			return
		}
	}
}

// Ut2: what precedes the cut is a text, also with a character behind it; two texts are a text.
func TestCutIsText(t *testing.T) {
	rnd := rand.New(rand.NewSource(1))
	random := func() string {
		b := make([]byte, rnd.Intn(12))
		for i := range b {
			b[i] = "ab\x80\xbf\xc3\xe2\x82\xac\xf0\x9f\x93\xa2"[rnd.Intn(12)]
		}
		return string(b)
	}
	for range 20000 {
		s, u := random(), random()
		head := s[:utf.Cut(s)]
		_, letters := expected(head)
		is(t, head, letters)
		for _, c := range []string{"\x01", "\u00f6", "\u20ac", "\U0010ffff"} {
			is(t, head+c, letters+1)
		}
		other := u[:utf.Cut(u)]
		_, more := expected(other)
		is(t, head+other, letters+more)
	}
}
