package packet_test

import (
	"fmt"
	"math"
	"math/rand"
	"strings"
	"testing"

	"towncrier/api"
	"towncrier/packet"
)

// told is what an error says, nothing for nil.
func told(e error) string {
	if e == nil {
		return ""
	}
	return e.Error()
}

// same tells whether two values are the same; nil and the empty list are.
func same[T any](a, b T) bool {
	return fmt.Sprintf("%+v", a) == fmt.Sprintf("%+v", b)
}

// sample is a packet, and its bytes.
type sample struct {
	p api.Packet
	s string
}

// samples are packets of all kinds.
func samples() []sample {
	return []sample{
		{api.Packet{Kind: 1, Clean: true, Keep: 9, Client: "c"}, "\x10\x0e\x00\x04MQTT\x05\x02\x00\x09\x00\x00\x01c"},
		{api.Packet{Kind: 1, Will: api.Last{Has: true, Topic: "w", Qos: 1, Props: []api.Prop{{Id: 1, N: 1}}}}, "\x10\x15\x00\x04MQTT\x05\x0c\x00\x00\x00\x00\x00\x02\x01\x01\x00\x01w\x00\x00"},
		{api.Packet{Kind: 2, Present: true, Props: []api.Prop{{Id: 33, N: 8}}}, "\x20\x06\x01\x00\x03\x21\x00\x08"},
		{api.Packet{Kind: 2, Reason: 0x97}, "\x20\x03\x00\x97\x00"},
		{api.Packet{Kind: 3, Topic: "t", Payload: "pay"}, "\x30\x07\x00\x01t\x00pay"},
		{api.Packet{Kind: 3, Topic: "t", Qos: 1, Id: 7, Dup: true, Retain: true}, "\x3b\x06\x00\x01t\x00\x07\x00"},
		{api.Packet{Kind: 3, Qos: 2, Id: 7, Props: []api.Prop{{Id: 35, N: 1}}, Payload: strings.Repeat("x", 120)}, "\x34\x80\x01\x00\x00\x00\x07\x03\x23\x00\x01" + strings.Repeat("x", 120)},
		{api.Packet{Kind: 4, Id: 7, Reason: 0x10}, "\x40\x03\x00\x07\x10"},
		{api.Packet{Kind: 5, Id: 7}, "\x50\x02\x00\x07"},
		{api.Packet{Kind: 6, Id: 7, Reason: 0x92}, "\x62\x03\x00\x07\x92"},
		{api.Packet{Kind: 7, Id: 7, Props: []api.Prop{{Id: 31, S: "x"}}}, "\x70\x08\x00\x07\x00\x04\x1f\x00\x01x"},
		{api.Packet{Kind: 8, Id: 1, Subs: []api.Sub{{Filter: "a", Qos: 2, AsIs: true}}}, "\x82\x07\x00\x01\x00\x00\x01a\x0a"},
		{api.Packet{Kind: 9, Id: 1, Codes: []int{2, 0x8f}}, "\x90\x05\x00\x01\x00\x02\x8f"},
		{api.Packet{Kind: 10, Id: 1, Filters: []string{"a", "b"}}, "\xa2\x09\x00\x01\x00\x00\x01a\x00\x01b"},
		{api.Packet{Kind: 11, Id: 1, Codes: []int{0, 0x11}}, "\xb0\x05\x00\x01\x00\x00\x11"},
		{api.Packet{Kind: 12}, "\xc0\x00"},
		{api.Packet{Kind: 13}, "\xd0\x00"},
		{api.Packet{Kind: 14, Reason: 0x8e}, "\xe0\x01\x8e"},
		{api.Packet{Kind: 14}, "\xe0\x00"},
		{api.Packet{Kind: 15, Reason: 0x18, Props: []api.Prop{{Id: 21, S: "m"}}}, "\xf0\x06\x18\x04\x15\x00\x01m"},
	}
}

// frameOf is the frame that bytes with a length of one or two bytes are.
func frameOf(s string) api.Frame {
	if s[1] < 0x80 {
		return api.Frame{First: int(s[0]), Body: s[2:]}
	}
	return api.Frame{First: int(s[0]), Body: s[3:]}
}

// all fails the test unless the bytes are these packets, and the error.
func all(t *testing.T, s string, most int, want []api.Packet, wrong string) {
	t.Helper()
	if l, err := packet.All(s, most); !same(l, want) || told(err) != wrong {
		t.Errorf("All(% .60x, %d) = %.300v, %q; want %.300v, %q", s, most, l, told(err), want, wrong)
	}
}

// Pk1: packets of all kinds, in both directions.
func TestKinds(t *testing.T) {
	for _, x := range samples() {
		if s, err := packet.Encode(x.p); s != x.s || err != nil {
			t.Errorf("Encode(%+v) = % x, %v; want % x", x.p, s, err, x.s)
		}
		if p, err := packet.Decode(frameOf(x.s)); !same(p, x.p) || err != nil {
			t.Errorf("Decode(% x) = %+v, %v; want %+v", x.s, p, err, x.p)
		}
		all(t, x.s, 1000, []api.Packet{x.p}, "")
	}
}

// Pk1: numbers that are no kinds.
func TestEncodeKind(t *testing.T) {
	for _, kind := range []int{0, 16, 17, 31, 32, 255, 256, 257, -1, -2, -15, 1<<32 + 1, math.MaxInt, math.MinInt} {
		for _, x := range samples() {
			x.p.Kind = kind
			if s, err := packet.Encode(x.p); s != "" || told(err) != "no such thing, reason 128, at 0" {
				t.Errorf("Encode of kind %d = % x, %q", kind, s, told(err))
			}
			if packet.Fits(x.p, math.MaxInt) {
				t.Errorf("kind %d fits", kind)
			}
		}
	}
}

// Pk1: the errors of the layers, kind by kind.
func TestEncodeRefuses(t *testing.T) {
	const malformed, large, protocol = "malformed, reason 129, at ", "too large, reason 129, at ", "against the protocol, reason 130, at "
	bad := []api.Prop{{Id: 38}, {Id: 4}}
	for _, x := range []struct {
		p    api.Packet
		want string
	}{
		{api.Packet{Kind: 1, Keep: -1}, large + "8"},
		{api.Packet{Kind: 2, Reason: 1}, malformed + "1"},
		{api.Packet{Kind: 3, Qos: 3}, malformed + "0"},
		{api.Packet{Kind: 3, Qos: 1}, protocol + "2"},
		{api.Packet{Kind: 4}, protocol + "0"},
		{api.Packet{Kind: 5, Id: 65536}, large + "0"},
		{api.Packet{Kind: 6, Id: 1, Reason: 0x10}, malformed + "2"},
		{api.Packet{Kind: 7, Id: 1, Reason: 0x80}, malformed + "2"},
		{api.Packet{Kind: 8, Id: 1}, protocol + "3"},
		{api.Packet{Kind: 9, Id: 1, Codes: []int{0x11}}, malformed + "3"},
		{api.Packet{Kind: 10, Id: 1}, protocol + "3"},
		{api.Packet{Kind: 11, Id: 1, Codes: []int{1}}, malformed + "3"},
		{api.Packet{Kind: 14, Reason: 0x92}, malformed + "0"},
		{api.Packet{Kind: 15, Reason: 0x80}, malformed + "0"},
	} {
		if s, err := packet.Encode(x.p); s != "" || told(err) != x.want {
			t.Errorf("Encode(%+v) = % x, %q; want %q", x.p, s, told(err), x.want)
		}
		if packet.Fits(x.p, math.MaxInt) {
			t.Errorf("%+v fits", x.p)
		}
	}
	for _, x := range samples() {
		if x.p.Kind == api.Pingreq || x.p.Kind == api.Pingresp {
			continue
		}
		x.p.Props = bad
		if s, err := packet.Encode(x.p); s != "" || told(err) != malformed+"1" {
			t.Errorf("Encode(%+v) = % x, %q", x.p, s, told(err))
		}
	}
}

// Pk1: the error of Put, for more bytes than a packet may have.
func TestEncodeTooLong(t *testing.T) {
	p := api.Packet{Kind: 3, Payload: strings.Repeat("x", 1<<28-3)}
	if b, err := packet.Encode(p); b != "" || told(err) != "too large, reason 149, at 0" {
		t.Errorf("Encode of one byte more = %d bytes, %q", len(b), told(err))
	}
}

// Pk1: first bytes, those that are not valid, and those that are, with an error of their layer.
func TestDecodeRefuses(t *testing.T) {
	const malformed, protocol = "malformed, reason 129, at ", "against the protocol, reason 130, at "
	firsts := map[int]string{
		0x10: protocol[:len(protocol)-len("130, at ")] + "132, at 0", 0x20: malformed + "0",
		0x40: protocol + "0", 0x50: protocol + "0", 0x62: protocol + "0", 0x70: protocol + "0", 0x82: protocol + "0", 0x90: protocol + "0",
		0xa2: protocol + "0", 0xb0: protocol + "0", 0xc0: malformed + "0", 0xd0: malformed + "0", 0xe0: malformed + "0", 0xf0: malformed + "0",
	}
	for _, first := range []int{0x32, 0x33, 0x34, 0x35, 0x3a, 0x3b, 0x3c, 0x3d} {
		firsts[first] = protocol + "2"
	}
	for first := -300; first < 600; first++ {
		s := "\x00\x00\x00\x00"
		want, ok := firsts[first]
		switch {
		case first == 0x30 || first == 0x31:
			if p, err := packet.Decode(api.Frame{First: first, Body: s}); p.Kind != 3 || p.Payload != "\x00" || err != nil {
				t.Errorf("Decode(%#x) = %+v, %v", first, p, err)
			}
			continue
		case !ok:
			want = malformed + "0"
		case first == 0x20:
			s = "\x02\x00\x00"
		case first == 0xe0 || first == 0xf0:
			s = "\x01"
		}
		if p, err := packet.Decode(api.Frame{First: first, Body: s}); !same(p, api.Packet{}) || told(err) != want {
			t.Errorf("Decode(%#x, % x) = %+v, %q; want %q", first, s, p, told(err), want)
		}
	}
}

// Pk1: as many bytes as are allowed.
func TestFits(t *testing.T) {
	for _, x := range samples() {
		for _, n := range []int{0, 1, 99, math.MaxInt - len(x.s)} {
			if !packet.Fits(x.p, len(x.s)+n) {
				t.Errorf("%+v does not fit %d bytes", x.p, len(x.s)+n)
			}
		}
		for _, n := range []int{len(x.s) - 1, 1, 0, -1, math.MinInt} {
			if packet.Fits(x.p, n) {
				t.Errorf("%+v fits %d bytes", x.p, n)
			}
		}
	}
}

// Pk2: packets one after the other; the chapter's example is c0 00 d0 00.
func TestAll(t *testing.T) {
	all(t, "\xc0\x00\xd0\x00", 2, []api.Packet{{Kind: 12}, {Kind: 13}}, "")
	all(t, "", 100, nil, "")
	all(t, "\xc0", 100, nil, "")
	all(t, "\xc0\x00\xd0", 100, []api.Packet{{Kind: 12}}, "")
	all(t, "\xc0\x00\x30\x05\x00\x01t", 100, []api.Packet{{Kind: 12}}, "")
}

// Pk2: up to the first error, of the splitter or of a packet: those before it, and the error.
func TestAllRefuses(t *testing.T) {
	const malformed, large, protocol = "malformed, reason 129, at ", "too large, reason 149, at 0", "against the protocol, reason 130, at "
	for s, want := range map[string]string{
		"\x00":                     malformed + "0",
		"\x36\x00":                 malformed + "0",
		"\x30\x80\x80\x80\x80\x01": malformed + "4",
		"\x30\x80\x00":             malformed + "2",
		"\x30\x63":                 large,
		"\xc0\x01\x00":             malformed + "0",
		"\x40\x02\x00\x00":         protocol + "0",
		"\x34\x05\x00\x01t\x00\x00\x00\x07\x23\x00\x01": protocol + "3",
		"\x30\x06\x00\x01t\x02\x04\x00":                 malformed + "4",
		"\xe0\x01\x92":                                  malformed + "0",
		"\x40\x01\x00":                                  "too few bytes, reason 129, at 1",
	} {
		all(t, s, 100, nil, want)
		all(t, s+"\xc0\x00", 100, nil, want)
		all(t, "\xc0\x00\xd0\x00"+s+"\xc0\x00\xc0\x00", 100, []api.Packet{{Kind: 12}, {Kind: 13}}, want)
	}
	all(t, "\xc0\x00\xe0\x01\x8e", 2, []api.Packet{{Kind: 12}}, large)
	all(t, "\xc0\x00\xe0\x01\x8e", 3, []api.Packet{{Kind: 12}, {Kind: 14, Reason: 0x8e}}, "")
	for _, most := range []int{1, 0, -1, math.MinInt} {
		all(t, "\xc0\x00", most, nil, large)
	}
}

// Pk3: what is encoded is one packet, unchanged; consecutive packets are decoded one after the other.
func TestReadBack(t *testing.T) {
	rnd := rand.New(rand.NewSource(15))
	l := samples()
	for range 2000 {
		var want []api.Packet
		s := ""
		for range rnd.Intn(12) {
			x := l[rnd.Intn(len(l))]
			b, err := packet.Encode(x.p)
			if err != nil {
				t.Fatal(err)
			}
			s += b
			want = append(want, x.p)
		}
		all(t, s, 200, want, "")
		if s != "" && len(want) > 0 {
			last, _ := packet.Encode(want[len(want)-1])
			cut := 1 + rnd.Intn(len(last))
			all(t, s[:len(s)-cut], 200, want[:len(want)-1], "")
		}
	}
}

// Pk3: whatever bytes come, what is decoded is encoded as bytes that are decoded as the same.
func TestAnyBytes(t *testing.T) {
	rnd := rand.New(rand.NewSource(16))
	l := samples()
	for range 100000 {
		x := l[rnd.Intn(len(l))]
		f := frameOf(x.s)
		b := []byte(f.Body)
		for range rnd.Intn(3) {
			if len(b) > 0 {
				b[rnd.Intn(len(b))] = byte(rnd.Intn(256) >> rnd.Intn(8))
			}
		}
		f.Body = string(b) + strings.Repeat("\x00", rnd.Intn(8)/7)
		p, err := packet.Decode(f)
		if err != nil {
			if !same(p, api.Packet{}) {
				t.Fatalf("Decode(%#x, % x) = %+v besides %v", f.First, f.Body, p, err)
			}
			continue
		}
		s, err := packet.Encode(p)
		if err != nil || p.Kind != f.First>>4 {
			t.Fatalf("Decode(%#x, % x) = %+v, encoded with %v", f.First, f.Body, p, err)
		}
		all(t, s, 1000, []api.Packet{p}, "")
	}
}
