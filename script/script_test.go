package script_test

import (
	"fmt"
	"math"
	"math/rand"
	"slices"
	"strings"
	"testing"

	"towncrier/api"
	"towncrier/script"
	"towncrier/terms"
)

// told is what an error says, nothing for nil.
func told(e error) string {
	if e == nil {
		return ""
	}
	return e.Error()
}

// head is what the scripts of the usual bounds begin with.
const head = "CRIER" +
	"\x00\x00\x00\x08\x00\x00\x04\x00\x00\x00\x00\x08\x00\x00\x00\x04\x00\x00\x00\x10\x00\x00\x00\x10\x00\x00\x10\x00" +
	"\x00\x01\x00\x00\x00\x00\x00\x08\x00\x00\x00\x10\x00\x00\x00\x00\x00\x00\x00\x00\x00\x00\x03\xe8"

// puts fails the test unless these are the bytes of events, which are read back.
func puts(t *testing.T, want string, l ...api.Event) {
	t.Helper()
	s, err := script.Put(terms.Usual(), l)
	if s != head+want || err != nil {
		t.Errorf("Put(%+v) = % x, %v; want % x", l, s, err, head+want)
	}
	c, got, err := script.Take(head + want)
	if c != terms.Usual() || !slices.Equal(got, l) || err != nil {
		t.Errorf("Take(% x) = %+v, %+v, %v", head+want, c, got, err)
	}
}

// refuses fails the test unless bounds and events have no bytes.
func refuses(t *testing.T, want string, c api.Config, l ...api.Event) {
	t.Helper()
	if s, err := script.Put(c, l); s != "" || told(err) != want {
		t.Errorf("Put = %d bytes, %v; want %s", len(s), err, want)
	}
}

// wrong fails the test unless bytes are no script.
func wrong(t *testing.T, want, s string) {
	t.Helper()
	if c, l, err := script.Take(s); c != (api.Config{}) || len(l) > 0 || told(err) != want {
		t.Errorf("Take(% x) = %+v, %+v, %v; want %s", s, c, l, err, want)
	}
}

// Sc1, Sc2: the bytes of scripts.
func TestScripts(t *testing.T) {
	puts(t, "\x00\x00")
	puts(t, "\x00\x02\x01\x03\x00\x00\x00\x00\x00\x00\x02\xff\xff\xff\xff\xff\x00\x02a\x00", api.Event{Kind: 1, Conn: 3}, api.Event{Kind: 2, Conn: 255, N: 1<<32 - 1, Bytes: "a\x00"})
	for kind := 1; kind <= 7; kind++ {
		puts(t, "\x00\x01"+string([]byte{byte(kind)})+"\x00\x00\x00\x01\x02\x00\x00", api.Event{Kind: kind, N: 258})
	}
	long := strings.Repeat("x", 65535)
	puts(t, "\x00\x01\x02\x00\x00\x00\x00\x00\xff\xff"+long, api.Event{Kind: 2, Bytes: long})
	puts(t, "\x40\x00"+strings.Repeat("\x05\x00\x00\x00\x00\x00\x00\x00", 1<<14), slices.Repeat([]api.Event{{Kind: 5}}, 1<<14)...)
}

// Sc1: the errors of Put, in their order.
func TestPutRefuses(t *testing.T) {
	bad := terms.Usual()
	bad.Session = -1
	many := slices.Repeat([]api.Event{{Kind: 5}}, 1<<14+1)
	refuses(t, "no such thing, reason 131, at 12", bad, many...)
	many[0].Kind = 9
	refuses(t, "too large, reason 149, at 0", terms.Usual(), many...)
	for _, kind := range []int{0, 8, -1, 256, 257, math.MinInt, math.MaxInt} {
		refuses(t, "no such thing, reason 128, at 2", terms.Usual(), api.Event{Kind: 1, Conn: 256}, api.Event{Kind: 7}, api.Event{Kind: kind}, api.Event{Kind: kind})
	}
	long := strings.Repeat("x", 65536)
	for want, e := range map[string]api.Event{
		"too large, reason 129, at 68": {Kind: 1, Conn: 256}, "too large, reason 129, at 69": {Kind: 1, N: 1 << 32}, "too large, reason 129, at 73": {Kind: 1, Bytes: long}, "too large, reason 129, at 68 ": {Kind: 1, Conn: -1, N: -1},
	} {
		refuses(t, strings.TrimSpace(want), terms.Usual(), api.Event{Kind: 1}, e, api.Event{Kind: 1, Conn: -1})
	}
	refuses(t, "too large, reason 129, at 61", terms.Usual(), api.Event{Kind: 1, N: -1})
}

// Sc2: scripts that are cut off, or are followed by more.
func TestTakeCut(t *testing.T) {
	s, _ := script.Put(terms.Usual(), []api.Event{{Kind: 1}, {Kind: 2, Bytes: "abc"}})
	for cut := range s {
		wrong(t, fmt.Sprintf("too few bytes, reason 129, at %d", cut), s[:cut])
	}
	wrong(t, fmt.Sprintf("malformed, reason 129, at %d", len(s)), s+"\x00")
}

// Sc2: the errors of Take, in their order; the chapter's example is CRIEX.
func TestTakeRefuses(t *testing.T) {
	wrong(t, "malformed, reason 129, at 0", "CRIEX")
	wrong(t, "malformed, reason 129, at 0", "crier"+head[5:]+"\x00\x00")
	wrong(t, "too few bytes, reason 129, at 4", "CRIX")
	// Of the last two bounds, all numbers are valid. Too few bytes behind the bounds come later.
	for i := range 11 {
		at := 5 + 4*i
		s := head[:at] + "\xff\xff\xff\xff" + head[at+4:]
		wrong(t, fmt.Sprintf("no such thing, reason 131, at %d", i), s)
		wrong(t, fmt.Sprintf("no such thing, reason 131, at %d", i), s+"\xff\xff")
	}
	wrong(t, "too large, reason 149, at 57", head+"\x40\x01")
	wrong(t, "too large, reason 149, at 57", head+"\xff\xff\x00")
	event := "\x05\x00\x00\x00\x00\x00\x00\x00"
	for _, kind := range []string{"\x00", "\x08", "\xff"} {
		wrong(t, "malformed, reason 129, at 67", head+"\x00\x03"+event+kind+event[1:]+"\x09")
		wrong(t, "too few bytes, reason 129, at 74", head+"\x00\x02"+event+kind+event[1:7])
	}
	wrong(t, "malformed, reason 129, at 67", head+"\x00\x01"+event+event)
}

// Sc3: what is put is read back, and what was read is put as the same bytes.
func TestBack(t *testing.T) {
	rnd := rand.New(rand.NewSource(43))
	for range 500 {
		c := api.Config{Conns: 1 + rnd.Intn(8), Packet: 64 + rnd.Intn(65473), Receive: 1 + rnd.Intn(65535), Aliases: rnd.Intn(65536), Queue: rnd.Intn(65537), Group: rnd.Intn(65537), Out: 64 + rnd.Intn(1<<20-63), Disk: rnd.Intn(1<<24 + 1), Clients: 1 + rnd.Intn(8), Retained: rnd.Intn(65537), Keep: rnd.Intn(65536), Wait: rnd.Intn(1 << 32), Session: rnd.Intn(1 << 32)}
		var l []api.Event
		for range rnd.Intn(20) {
			l = append(l, api.Event{Kind: 1 + rnd.Intn(7), Conn: rnd.Intn(256), N: rnd.Intn(1 << 32), Bytes: strings.Repeat("x", rnd.Intn(9))})
		}
		s, err := script.Put(c, l)
		if err != nil {
			t.Fatal(err)
		}
		d, k, err := script.Take(s)
		if d != c || !slices.Equal(k, l) || err != nil {
			t.Fatalf("%+v, %+v is read back as %+v, %+v, %v", c, l, d, k, err)
		}
		b := []byte(s)
		b[5+rnd.Intn(len(b)-5)] ^= 1 << rnd.Intn(8)
		if d, k, err = script.Take(string(b)); err != nil {
			continue
		}
		if s, err = script.Put(d, k); s != string(b) || err != nil {
			t.Fatalf("% x is put as % x, %v", b, s, err)
		}
	}
}
