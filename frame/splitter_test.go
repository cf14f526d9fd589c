package frame_test

import (
	"math"
	"math/rand"
	"slices"
	"strings"
	"testing"

	"towncrier/api"
	"towncrier/frame"
)

// What the fault of a packet that is too large says.
const large = "too large, reason 149, at 0"

// nothing fails the test unless the next one is none, with the error, however often.
func nothing(t *testing.T, x *frame.Splitter, left int, want string) {
	t.Helper()
	for range 2 {
		if f, ok, err := x.Next(); f != (api.Frame{}) || ok || told(err) != want {
			t.Errorf("Next() = %v, %v, %q; want none, %q", f, ok, told(err), want)
		}
		if x.Left() != left {
			t.Errorf("Left() = %d, want %d", x.Left(), left)
		}
	}
}

// something fails the test unless the next one is this.
func something(t *testing.T, x *frame.Splitter, first int, body string, left int) {
	t.Helper()
	if f, ok, err := x.Next(); f != (api.Frame{First: first, Body: body}) || !ok || err != nil {
		t.Errorf("Next() = %#x, %.20q, %v, %v; want %#x, %.20q", f.First, f.Body, ok, err, first, body)
	}
	if x.Left() != left {
		t.Errorf("Left() = %d, want %d", x.Left(), left)
	}
}

// fed is a splitter that got a piece.
func fed(most int, s string) *frame.Splitter {
	x := frame.New(most)
	x.Feed(s)
	return x
}

// Fm2: packets one after the other; the chapter's example is c0 00.
func TestNext(t *testing.T) {
	x := fed(100, "\xc0\x00")
	something(t, x, 0xc0, "", 0)
	nothing(t, x, 0, "")
	x.Feed("")
	nothing(t, x, 0, "")
	x.Feed("\xe0\x01\x8e\x30\x03abc\xd0")
	something(t, x, 0xe0, "\x8e", 6)
	something(t, x, 0x30, "abc", 1)
	nothing(t, x, 1, "")
	x.Feed("\x00\xd0\x00")
	something(t, x, 0xd0, "", 2)
	something(t, x, 0xd0, "", 0)
	nothing(t, x, 0, "")
}

// Fm2: as long as a packet is not complete, there is none; then it is there.
func TestNextWaits(t *testing.T) {
	s := "\x30\xac\x02" + strings.Repeat("x", 300)
	x := frame.New(303)
	nothing(t, x, 0, "")
	for i := range s {
		nothing(t, x, i, "")
		x.Feed(s[i : i+1])
	}
	something(t, x, 0x30, s[3:], 0)
	nothing(t, x, 0, "")
}

// Fm2: a first byte that is not valid.
func TestNextFirst(t *testing.T) {
	for first := range 256 {
		s := string([]byte{byte(first)})
		if slices.Contains(firsts(), first) {
			nothing(t, fed(9, s), 1, "")
			something(t, fed(9, s+"\x01a"), first, "a", 0)
			continue
		}
		nothing(t, fed(9, s), 1, bad)
		nothing(t, fed(9, s+"\x00"), 2, bad)
		nothing(t, fed(0, s+"\xff\xff\xff\xff\xff"), 6, bad)
		x := fed(9, "\xc0\x00"+s+"\x00")
		something(t, x, 0xc0, "", 2)
		nothing(t, x, 2, bad)
	}
}

// Fm2: lengths that are none, or that may become one.
func TestNextLength(t *testing.T) {
	const at2, at3, at4 = "malformed, reason 129, at 2", "malformed, reason 129, at 3", "malformed, reason 129, at 4"
	for s, want := range map[string]string{
		"\x30\x80": "", "\x30\xff\xff": "", "\x30\x80\x80\x80": "", "\x30\xff\xff\xff": "",
		"\x30\x80\x00": at2, "\x30\x80\x00abc": at2, "\x30\xff\xff\x00": at3, "\x30\x80\x80\x80\x00": at4,
		"\x30\x80\x80\x80\x80": at4, "\x30\xff\xff\xff\xff": at4, "\x30\xff\xff\xff\xff\x01": at4,
	} {
		for _, most := range []int{-1, 0, 9, math.MaxInt} {
			nothing(t, fed(most, s), len(s), want)
			x := fed(9, "\xd0\x00"+s)
			something(t, x, 0xd0, "", len(s))
			nothing(t, x, len(s), want)
		}
	}
}

// Fm2: packets of as many bytes as are allowed, and of more, which is told before they are complete.
func TestNextMost(t *testing.T) {
	for _, n := range []int{0, 1, 126, 127, 128, 16383, 16384} {
		p, _ := frame.Put(api.Frame{First: 0x30, Body: strings.Repeat("x", n)})
		head := len(p) - n
		for _, most := range []int{len(p), len(p) + 1, math.MaxInt} {
			something(t, fed(most, p), 0x30, p[head:], 0)
			nothing(t, fed(most, p[:len(p)-1]), len(p)-1, "")
		}
		for _, most := range []int{len(p) - 1, 1, 0, -1, math.MinInt} {
			nothing(t, fed(most, p[:head]), head, large)
			nothing(t, fed(most, p), len(p), large)
			nothing(t, fed(most, p[:head-1]), head-1, "")
		}
	}
	nothing(t, fed(1<<28+4, "\x30\xff\xff\xff\x7f"), 5, "")
	nothing(t, fed(1<<28+3, "\x30\xff\xff\xff\x7f"), 5, large)
}

// Fm2: an error stays, whatever comes; what comes is still counted.
func TestNextStays(t *testing.T) {
	for s, want := range map[string]string{"\x00": bad, "\x30\x80\x00": "malformed, reason 129, at 2", "\x30\x20": large} {
		x := fed(9, "\xc0\x00"+s)
		something(t, x, 0xc0, "", len(s))
		nothing(t, x, len(s), want)
		x.Feed("\xc0\x00")
		nothing(t, x, len(s)+2, want)
		x.Feed("\xff")
		x.Feed("")
		nothing(t, x, len(s)+3, want)
	}
}

// Fm2: a splitter that allows no packet, and none at all.
func TestZeroAndNil(t *testing.T) {
	var zero frame.Splitter
	nothing(t, &zero, 0, "")
	zero.Feed("\xc0")
	nothing(t, &zero, 1, "")
	zero.Feed("\x00")
	nothing(t, &zero, 2, large)
	var zero2, none *frame.Splitter = &frame.Splitter{}, nil
	zero2.Feed("\x00")
	nothing(t, zero2, 1, bad)
	nothing(t, none, 0, "")
	none.Feed("\xc0\x00")
	nothing(t, none, 0, "")
}

// all are the packets that come out of pieces, the error, and how many bytes are left.
func all(most int, pieces []string) ([]api.Frame, string, int) {
	var l []api.Frame
	wrong := ""
	x := frame.New(most)
	for _, s := range pieces {
		x.Feed(s)
		for {
			f, ok, err := x.Next()
			wrong = told(err)
			if !ok {
				break
			}
			l = append(l, f)
		}
	}
	return l, wrong, x.Left()
}

// random are the bytes of some packets, of which the last may be wrong or not complete, and the packets.
func random(rnd *rand.Rand) (string, []api.Frame) {
	s := ""
	var l []api.Frame
	for range rnd.Intn(9) {
		f := api.Frame{First: firsts()[rnd.Intn(len(firsts()))], Body: strings.Repeat(string(rune('a'+rnd.Intn(26))), rnd.Intn(1+rnd.Intn(400)))}
		p, _ := frame.Put(f)
		s += p
		l = append(l, f)
	}
	return s + []string{"", "\x00\x00", "\x30", "\x30\x80", "\x30\x81\x00", "\x30\xff\xff\x7f", "\xc0\x03ab", "\x40\x80\x80\x80\x80\x01"}[rnd.Intn(8)], l
}

// Fm3: however bytes are divided into pieces, the packets and the error are the same; what was put is returned.
func TestPieces(t *testing.T) {
	rnd := rand.New(rand.NewSource(7))
	for range 3000 {
		s, want := random(rnd)
		whole, wrong, left := all(500, []string{s})
		if !slices.Equal(whole, want) {
			t.Fatalf("% x: %v, want %v", s, whole, want)
		}
		var single []string
		for i := range len(s) {
			single = append(single, s[i:i+1])
		}
		var some []string
		for rest := s; rest != ""; {
			n := rnd.Intn(len(rest) + 1)
			some = append(some, rest[:n])
			rest = rest[n:]
		}
		for _, pieces := range [][]string{single, some} {
			l, e, n := all(500, pieces)
			if !slices.Equal(l, whole) || e != wrong || n != left {
				t.Fatalf("%q: %v, %q, %d; in one piece %v, %q, %d", pieces, l, e, n, whole, wrong, left)
			}
		}
		// A splitter that is asked only at the end.
		x := frame.New(500)
		for _, p := range some {
			x.Feed(p)
		}
		for i, f := range want {
			if got, ok, err := x.Next(); got != f || !ok || err != nil {
				t.Fatalf("% x: packet %d is %v, %v, %v", s, i, got, ok, err)
			}
			if i == len(want)/2 {
				x.Feed("")
			}
		}
		nothing(t, x, left, wrong)
	}
}
