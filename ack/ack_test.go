package ack_test

import (
	"fmt"
	"math"
	"math/rand"
	"slices"
	"testing"

	"towncrier/ack"
	"towncrier/api"
)

// told is what an error says, nothing for nil.
func told(e error) string {
	if e == nil {
		return ""
	}
	return e.Error()
}

// same tells whether two values are the same; nil and the empty list are.
func same[T any](a, b T) bool {
	return fmt.Sprintf("%+v", a) == fmt.Sprintf("%+v", b)
}

// decoded fails the test unless the bytes are that packet, or have the error.
func decoded(t *testing.T, first int, s string, want api.Packet, wrong string) {
	t.Helper()
	if p, err := ack.Decode(api.Frame{First: first, Body: s}); !same(p, want) || told(err) != wrong {
		t.Errorf("Decode(%#x, % .60x) = %+v, %q; want %+v, %q", first, s, p, told(err), want, wrong)
	}
}

// refused fails the test unless the bytes have the error.
func refused(t *testing.T, first int, s, wrong string) {
	t.Helper()
	decoded(t, first, s, api.Packet{}, wrong)
}

// encoded fails the test unless the packet has these bytes, and they are decoded as it.
func encoded(t *testing.T, p api.Packet, first int, want string) {
	t.Helper()
	if f, err := ack.Encode(p); f != (api.Frame{First: first, Body: want}) || err != nil {
		t.Errorf("Encode(%+v) = %#x, % .60x, %v; want %#x, % .60x", p, f.First, f.Body, err, first, want)
	}
	decoded(t, first, want, p, "")
}

// notEncoded fails the test unless the packet has the error.
func notEncoded(t *testing.T, p api.Packet, wrong string) {
	t.Helper()
	if f, err := ack.Encode(p); f != (api.Frame{}) || told(err) != wrong {
		t.Errorf("Encode(%.200v) = %#x, % .60x, %q; want %q", p, f.First, f.Body, told(err), wrong)
	}
}

// kinds are the four kinds, and their first bytes.
func kinds() map[int]int {
	return map[int]int{api.Puback: 0x40, api.Pubrec: 0x50, api.Pubrel: 0x62, api.Pubcomp: 0x70}
}

// codes are the reasons that a kind may have.
func codes(kind int) []int {
	if kind == api.Puback || kind == api.Pubrec {
		return []int{0x00, 0x10, 0x80, 0x83, 0x87, 0x90, 0x91, 0x97, 0x99}
	}
	return []int{0x00, 0x92}
}

// Ak1: the bytes of each kind, with and without a reason and properties; the chapter's example is 62; 00 07.
func TestBytes(t *testing.T) {
	encoded(t, api.Packet{Kind: api.Pubrel, Id: 7}, 0x62, "\x00\x07")
	for kind, first := range kinds() {
		encoded(t, api.Packet{Kind: kind, Id: 1}, first, "\x00\x01")
		encoded(t, api.Packet{Kind: kind, Id: 65535}, first, "\xff\xff")
		props := []api.Prop{{Id: 31, S: "x"}, {Id: 38, S: "k", V: "v"}}
		encoded(t, api.Packet{Kind: kind, Id: 0x102, Props: props}, first, "\x01\x02\x00\x0b\x1f\x00\x01x\x26\x00\x01k\x00\x01v")
		for _, code := range codes(kind)[1:] {
			s := "\x01\x02" + string([]byte{byte(code)})
			encoded(t, api.Packet{Kind: kind, Id: 0x102, Reason: code}, first, s)
			encoded(t, api.Packet{Kind: kind, Id: 0x102, Reason: code, Props: props[:1]}, first, s+"\x04\x1f\x00\x01x")
		}
	}
}

// Ak1: a reason of 0, and no properties, may be there all the same.
func TestDecodeNeedless(t *testing.T) {
	for kind, first := range kinds() {
		decoded(t, first, "\x00\x07\x00", api.Packet{Kind: kind, Id: 7}, "")
		decoded(t, first, "\x00\x07\x00\x00", api.Packet{Kind: kind, Id: 7}, "")
		code := codes(kind)[1]
		decoded(t, first, "\x00\x07"+string([]byte{byte(code)})+"\x00", api.Packet{Kind: kind, Id: 7, Reason: code}, "")
	}
}

// Ak1: the first byte.
func TestDecodeFirst(t *testing.T) {
	firsts := map[int]int{}
	for kind, first := range kinds() {
		firsts[first] = kind
	}
	for first := -300; first < 600; first++ {
		if kind, ok := firsts[first]; ok {
			decoded(t, first, "\x00\x07", api.Packet{Kind: kind, Id: 7}, "")
			continue
		}
		refused(t, first, "\x00\x07", "malformed, reason 129, at 0")
		refused(t, first, "", "malformed, reason 129, at 0")
	}
}

// Ak1: all reasons, with whatever follows them.
func TestDecodeReason(t *testing.T) {
	for kind, first := range kinds() {
		for code := range 256 {
			s := "\x00\x07" + string([]byte{byte(code)})
			if slices.Contains(codes(kind), code) {
				decoded(t, first, s, api.Packet{Kind: kind, Id: 7, Reason: code}, "")
				continue
			}
			for _, behind := range []string{"", "\x00", "\x05", "\x80\x00"} {
				refused(t, first, s+behind, "malformed, reason 129, at 2")
			}
		}
	}
}

// Ak1: the errors of the reader, and of the properties, where they are.
func TestDecodeRefuses(t *testing.T) {
	for kind, first := range kinds() {
		refused(t, first, "", "too few bytes, reason 129, at 0")
		refused(t, first, "\x00", "too few bytes, reason 129, at 1")
		for _, behind := range []string{"", "\x00", "\x01", "\x00\x05"} {
			refused(t, first, "\x00\x00"+behind, "against the protocol, reason 130, at 0")
		}
		s := "\x00\x07\x00\x0b\x1f\x00\x01x\x26\x00\x01k\x00\x01v"
		decoded(t, first, s, api.Packet{Kind: kind, Id: 7, Props: []api.Prop{{Id: 31, S: "x"}, {Id: 38, S: "k", V: "v"}}}, "")
		for cut := 4; cut < len(s); cut++ {
			refused(t, first, s[:cut], fmt.Sprint("too few bytes, reason 129, at ", cut))
		}
		refused(t, first, s+"\x00", fmt.Sprint("malformed, reason 129, at ", len(s)))
		refused(t, first, "\x00\x07\x00\x00\x00", "malformed, reason 129, at 4")
		refused(t, first, "\x00\x07\x00\x80", "too few bytes, reason 129, at 4")
		refused(t, first, "\x00\x07\x00\x02\x01\x01", "malformed, reason 129, at 4")
		refused(t, first, "\x00\x07\x00\x04\x1f\x00\x01\xff", "malformed, reason 129, at 7")
		refused(t, first, "\x00\x07\x00\x08\x1f\x00\x01x\x1f\x00\x01y", "against the protocol, reason 130, at 8")
	}
}

// Ak1: other kinds.
func TestEncodeKind(t *testing.T) {
	for _, kind := range []int{0, 1, 2, 3, 8, 9, 10, 11, 12, 13, 14, 15, 16, -4, 20, 256 + 4, math.MaxInt, math.MinInt} {
		notEncoded(t, api.Packet{Kind: kind, Id: 7}, "no such thing, reason 128, at 0")
		notEncoded(t, api.Packet{Kind: kind, Id: -1, Props: []api.Prop{{Id: 4}}}, "no such thing, reason 128, at 0")
	}
}

// Ak1: the errors of Encode, in their order.
func TestEncodeRefuses(t *testing.T) {
	const large = "too large, reason 129, at "
	for kind := range kinds() {
		notEncoded(t, api.Packet{Kind: kind, Id: -1, Reason: -1, Props: []api.Prop{{Id: 38}, {Id: 1, N: 1}}}, "malformed, reason 129, at 1")
		notEncoded(t, api.Packet{Kind: kind, Id: -1, Props: []api.Prop{{Id: 31}, {Id: 31}}}, "against the protocol, reason 130, at 1")
		notEncoded(t, api.Packet{Kind: kind, Id: -1, Props: slices.Repeat([]api.Prop{{Id: 38}}, 65)}, "too large, reason 149, at 64")
		notEncoded(t, api.Packet{Kind: kind, Id: -1, Props: []api.Prop{{Id: 31, S: "a\x00"}}}, "malformed, reason 129, at 4")
		for _, n := range []int{-1, 65536, math.MinInt, math.MaxInt} {
			notEncoded(t, api.Packet{Kind: kind, Id: n, Reason: n}, large+"0")
			notEncoded(t, api.Packet{Kind: kind, Reason: n}, large+"2")
			notEncoded(t, api.Packet{Kind: kind, Reason: n, Props: []api.Prop{{Id: 38}}}, large+"2")
		}
		notEncoded(t, api.Packet{Kind: kind, Id: 7, Reason: 256}, large+"2")
		notEncoded(t, api.Packet{Kind: kind}, "against the protocol, reason 130, at 0")
		notEncoded(t, api.Packet{Kind: kind, Reason: 1}, "against the protocol, reason 130, at 0")
		for code := range 256 {
			if !slices.Contains(codes(kind), code) {
				notEncoded(t, api.Packet{Kind: kind, Id: 7, Reason: code}, "malformed, reason 129, at 2")
				notEncoded(t, api.Packet{Kind: kind, Id: 7, Reason: code, Props: []api.Prop{{Id: 38}}}, "malformed, reason 129, at 2")
			}
		}
	}
}

// Ak2: what is encoded is decoded unchanged, without what its kind does not have.
func TestReadBack(t *testing.T) {
	rnd := rand.New(rand.NewSource(11))
	for range 3000 {
		kind := api.Puback + rnd.Intn(4)
		p := api.Packet{Kind: kind, Id: 1 + rnd.Intn(65535), Reason: codes(kind)[rnd.Intn(len(codes(kind)))]}
		for range rnd.Intn(3) {
			p.Props = append(p.Props, api.Prop{Id: 38, S: "k", V: "\u00f6"})
		}
		if rnd.Intn(2) > 0 {
			p.Props = append(p.Props, api.Prop{Id: 31, S: "\u20ac"})
		}
		f, err := ack.Encode(p)
		if err != nil {
			t.Fatalf("%+v: %v", p, err)
		}
		encoded(t, p, kinds()[kind], f.Body)
		more := api.Packet{
			Kind: p.Kind, Id: p.Id, Reason: p.Reason, Props: p.Props, Clean: true, Keep: -1, Client: "\x00", Topic: "\x00", Payload: "p", Qos: 9, Retain: true,
			Dup: true, Present: true, HasUser: true, User: "\x00", HasPass: true, Will: api.Last{Has: true, Qos: -1},
			Subs: []api.Sub{{Filter: "a"}}, Filters: []string{"a"}, Codes: []int{1},
		}
		if g, err := ack.Encode(more); g != f || err != nil {
			t.Fatalf("%+v: %+v, %v", more, g, err)
		}
	}
}
