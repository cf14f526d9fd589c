package connack_test

import (
	"fmt"
	"math"
	"math/rand"
	"slices"
	"strings"
	"testing"

	"towncrier/api"
	"towncrier/connack"
)

// told is what an error says, nothing for nil.
func told(e error) string {
	if e == nil {
		return ""
	}
	return e.Error()
}

// same tells whether two values are the same; nil and the empty list are.
func same[T any](a, b T) bool {
	return fmt.Sprintf("%+v", a) == fmt.Sprintf("%+v", b)
}

// decoded fails the test unless the bytes are that packet, or have the error.
func decoded(t *testing.T, first int, s string, want api.Packet, wrong string) {
	t.Helper()
	if p, err := connack.Decode(api.Frame{First: first, Body: s}); !same(p, want) || told(err) != wrong {
		t.Errorf("Decode(%#x, % .60x) = %+v, %q; want %+v, %q", first, s, p, told(err), want, wrong)
	}
}

// refused fails the test unless the bytes have the error.
func refused(t *testing.T, s, wrong string) {
	t.Helper()
	decoded(t, 0x20, s, api.Packet{}, wrong)
}

// encoded fails the test unless the packet has these bytes, and they are decoded as it.
func encoded(t *testing.T, p api.Packet, want string) {
	t.Helper()
	if f, err := connack.Encode(p); f != (api.Frame{First: 0x20, Body: want}) || err != nil {
		t.Errorf("Encode(%+v) = %#x, % .60x, %v; want % .60x", p, f.First, f.Body, err, want)
	}
	decoded(t, 0x20, want, p, "")
}

// notEncoded fails the test unless the packet has the error.
func notEncoded(t *testing.T, p api.Packet, wrong string) {
	t.Helper()
	if f, err := connack.Encode(p); f != (api.Frame{}) || told(err) != wrong {
		t.Errorf("Encode(%.200v) = %#x, % .60x, %q; want %q", p, f.First, f.Body, told(err), wrong)
	}
}

// codes are the reasons that a Connack may have.
func codes() []int {
	return []int{
		0x00, 0x80, 0x81, 0x82, 0x83, 0x84, 0x85, 0x86, 0x87, 0x88, 0x89, 0x8a, 0x8c,
		0x90, 0x95, 0x97, 0x99, 0x9a, 0x9b, 0x9c, 0x9d, 0x9f,
	}
}

// Ca1: the bytes of Connacks; the chapter's example is 20; 00 00 00.
func TestBytes(t *testing.T) {
	encoded(t, api.Packet{Kind: 2}, "\x00\x00\x00")
	encoded(t, api.Packet{Kind: 2, Present: true}, "\x01\x00\x00")
	encoded(t, api.Packet{Kind: 2, Reason: 0x85}, "\x00\x85\x00")
	encoded(t, api.Packet{Kind: 2, Present: true, Props: []api.Prop{{Id: 18, S: "ab"}, {Id: 37}}}, "\x01\x00\x07\x12\x00\x02ab\x25\x00")
	encoded(t, api.Packet{Kind: 2, Reason: 0x97, Props: []api.Prop{{Id: 31, S: "full"}}}, "\x00\x97\x07\x1f\x00\x04full")
	for _, code := range codes() {
		encoded(t, api.Packet{Kind: 2, Reason: code}, "\x00"+string([]byte{byte(code)})+"\x00")
	}
}

// Ca1: the first byte.
func TestDecodeFirst(t *testing.T) {
	for first := -300; first < 600; first++ {
		if first == 0x20 {
			decoded(t, first, "\x00\x00\x00", api.Packet{Kind: 2}, "")
			continue
		}
		decoded(t, first, "\x00\x00\x00", api.Packet{}, "malformed, reason 129, at 0")
		decoded(t, first, "", api.Packet{}, "malformed, reason 129, at 0")
	}
}

// Ca1: all first two bytes, with whatever follows them.
func TestDecodeTwo(t *testing.T) {
	const at0, at1, protocol = "malformed, reason 129, at 0", "malformed, reason 129, at 1", "against the protocol, reason 130, at 0"
	for session := range 256 {
		refused(t, string([]byte{byte(session)}), "too few bytes, reason 129, at 1")
		for code := range 256 {
			s := string([]byte{byte(session), byte(code)})
			want := ""
			switch {
			case session > 1:
				want = at0
			case !slices.Contains(codes(), code):
				want = at1
			case session == 1 && code != 0:
				want = protocol
			default:
				decoded(t, 0x20, s+"\x00", api.Packet{Kind: 2, Present: session == 1, Reason: code}, "")
				refused(t, s, "too few bytes, reason 129, at 2")
				continue
			}
			for _, behind := range []string{"", "\x00", "\x01", "\x00\x00", "\x80\x00"} {
				refused(t, s+behind, want)
			}
		}
	}
	refused(t, "", "too few bytes, reason 129, at 0")
}

// Ca1: the errors of the reader, and of the properties, where they are.
func TestDecodeRefuses(t *testing.T) {
	s := "\x00\x00\x08\x12\x00\x02ab\x13\x00\x05"
	decoded(t, 0x20, s, api.Packet{Kind: 2, Props: []api.Prop{{Id: 18, S: "ab"}, {Id: 19, N: 5}}}, "")
	for cut := range len(s) {
		refused(t, s[:cut], fmt.Sprint("too few bytes, reason 129, at ", cut))
	}
	refused(t, s+"\x00", "malformed, reason 129, at 11")
	refused(t, "\x00\x00\x00\x00", "malformed, reason 129, at 3")
	refused(t, "\x00\x00\x02\x24\x02", "against the protocol, reason 130, at 3")
	refused(t, "\x00\x00\x02\x17\x01", "malformed, reason 129, at 3")
	refused(t, "\x00\x00\x04\x1f\x00\x01\xff", "malformed, reason 129, at 6")
	refused(t, "\x00\x00\x04\x24\x00\x24\x00", "against the protocol, reason 130, at 5")
}

// Ca1: whatever Kind is, and without what a Connack does not have.
func TestEncodeOnlyItsFields(t *testing.T) {
	for _, kind := range []int{0, 1, 2, 3, 16, -1, math.MaxInt} {
		p := api.Packet{
			Kind: kind, Id: -1, Clean: true, Keep: -1, Client: "\x00", HasUser: true, User: "\x00", HasPass: true, Pass: "p",
			Will: api.Last{Has: true, Qos: -1, Props: []api.Prop{{Id: 4}}}, Topic: "\x00", Payload: "p", Qos: 9, Retain: true, Dup: true,
			Subs: []api.Sub{{Filter: "a"}}, Filters: []string{"a"}, Codes: []int{1},
		}
		if f, err := connack.Encode(p); f != (api.Frame{First: 0x20, Body: "\x00\x00\x00"}) || err != nil {
			t.Errorf("Encode of kind %d = %#x, % x, %v", kind, f.First, f.Body, err)
		}
	}
}

// Ca1: the errors of Encode, in their order.
func TestEncodeRefuses(t *testing.T) {
	const protocol = "against the protocol, reason 130, at "
	notEncoded(t, api.Packet{Props: []api.Prop{{Id: 18}, {Id: 23}}, Reason: -1}, "malformed, reason 129, at 1")
	notEncoded(t, api.Packet{Props: []api.Prop{{Id: 36, N: 2}}, Reason: 256}, protocol+"0")
	notEncoded(t, api.Packet{Props: []api.Prop{{Id: 31, S: "\x00"}}, Reason: 256}, "malformed, reason 129, at 3")
	notEncoded(t, api.Packet{Props: slices.Repeat([]api.Prop{{Id: 38}}, 65)}, "too large, reason 149, at 64")
	for _, code := range []int{-1, 256, math.MinInt, math.MaxInt} {
		notEncoded(t, api.Packet{Reason: code}, "too large, reason 129, at 1")
		notEncoded(t, api.Packet{Reason: code, Present: true}, "too large, reason 129, at 1")
	}
	for code := range 256 {
		want := protocol + "0"
		if !slices.Contains(codes(), code) {
			want = "malformed, reason 129, at 1"
			notEncoded(t, api.Packet{Reason: code}, want)
		}
		if code != 0 {
			notEncoded(t, api.Packet{Reason: code, Present: true}, want)
		}
	}
}

// Ca2: what is encoded is decoded unchanged, and encoded again as the same bytes.
func TestReadBack(t *testing.T) {
	rnd := rand.New(rand.NewSource(9))
	for range 3000 {
		p := api.Packet{Kind: 2, Reason: codes()[rnd.Intn(len(codes()))], Present: rnd.Intn(2) > 0}
		if p.Present {
			p.Reason = 0
		}
		for range rnd.Intn(3) {
			p.Props = append(p.Props, api.Prop{Id: 38, S: strings.Repeat("k", rnd.Intn(3)), V: "\u00f6"})
		}
		for _, x := range []api.Prop{{Id: 17, N: rnd.Intn(1 << 32)}, {Id: 18, S: "c"}, {Id: 22, S: "\xff"}, {Id: 40, N: rnd.Intn(2)}} {
			if rnd.Intn(2) > 0 {
				p.Props = append(p.Props, x)
			}
		}
		f, err := connack.Encode(p)
		if err != nil {
			t.Fatalf("%+v: %v", p, err)
		}
		encoded(t, p, f.Body)
	}
}
