package misc_test

import (
	"fmt"
	"math"
	"math/rand"
	"slices"
	"testing"

	"towncrier/api"
	"towncrier/misc"
)

// told is what an error says, nothing for nil.
func told(e error) string {
	if e == nil {
		return ""
	}
	return e.Error()
}

// same tells whether two values are the same; nil and the empty list are.
func same[T any](a, b T) bool {
	return fmt.Sprintf("%+v", a) == fmt.Sprintf("%+v", b)
}

// decoded fails the test unless the bytes are that packet, or have the error.
func decoded(t *testing.T, first int, s string, want api.Packet, wrong string) {
	t.Helper()
	if p, err := misc.Decode(api.Frame{First: first, Body: s}); !same(p, want) || told(err) != wrong {
		t.Errorf("Decode(%#x, % .60x) = %+v, %q; want %+v, %q", first, s, p, told(err), want, wrong)
	}
}

// refused fails the test unless the bytes have the error.
func refused(t *testing.T, first int, s, wrong string) {
	t.Helper()
	decoded(t, first, s, api.Packet{}, wrong)
}

// encoded fails the test unless the packet has these bytes, and they are decoded as it.
func encoded(t *testing.T, p api.Packet, first int, want string) {
	t.Helper()
	if f, err := misc.Encode(p); f != (api.Frame{First: first, Body: want}) || err != nil {
		t.Errorf("Encode(%+v) = %#x, % .60x, %v; want %#x, % .60x", p, f.First, f.Body, err, first, want)
	}
	decoded(t, first, want, p, "")
}

// notEncoded fails the test unless the packet has the error.
func notEncoded(t *testing.T, p api.Packet, wrong string) {
	t.Helper()
	if f, err := misc.Encode(p); f != (api.Frame{}) || told(err) != wrong {
		t.Errorf("Encode(%.200v) = %#x, % .60x, %q; want %q", p, f.First, f.Body, told(err), wrong)
	}
}

// kinds are the four kinds, and their first bytes.
func kinds() map[int]int {
	return map[int]int{api.Pingreq: 0xc0, api.Pingresp: 0xd0, api.Disconnect: 0xe0, api.Auth: 0xf0}
}

// codes are the reasons that a kind may have, if it has any.
func codes(kind int) []int {
	if kind == api.Auth {
		return []int{0x00, 0x18, 0x19}
	}
	return []int{
		0x00, 0x04, 0x80, 0x81, 0x82, 0x83, 0x87, 0x89, 0x8b, 0x8c, 0x8d, 0x8e, 0x8f, 0x90, 0x93, 0x94, 0x95, 0x96, 0x97, 0x98, 0x99,
		0x9a, 0x9b, 0x9c, 0x9d, 0x9e, 0x9f, 0xa0, 0xa1, 0xa2,
	}
}

// Mi1: the bytes of each kind, with and without a reason and properties; the chapter's example is e0; 8e.
func TestBytes(t *testing.T) {
	encoded(t, api.Packet{Kind: api.Disconnect, Reason: 0x8e}, 0xe0, "\x8e")
	for kind, first := range kinds() {
		encoded(t, api.Packet{Kind: kind}, first, "")
	}
	props := []api.Prop{{Id: 31, S: "x"}, {Id: 38, S: "k", V: "v"}}
	for _, kind := range []int{api.Disconnect, api.Auth} {
		first := kinds()[kind]
		encoded(t, api.Packet{Kind: kind, Props: props}, first, "\x00\x0b\x1f\x00\x01x\x26\x00\x01k\x00\x01v")
		for _, code := range codes(kind)[1:] {
			s := string([]byte{byte(code)})
			encoded(t, api.Packet{Kind: kind, Reason: code}, first, s)
			encoded(t, api.Packet{Kind: kind, Reason: code, Props: props[:1]}, first, s+"\x04\x1f\x00\x01x")
		}
	}
	encoded(t, api.Packet{Kind: api.Disconnect, Props: []api.Prop{{Id: 17, N: 5}, {Id: 28, S: "s"}}}, 0xe0, "\x00\x09\x11\x00\x00\x00\x05\x1c\x00\x01s")
	encoded(t, api.Packet{Kind: api.Auth, Reason: 0x18, Props: []api.Prop{{Id: 21, S: "m"}, {Id: 22, S: "\xff"}}}, 0xf0, "\x18\x08\x15\x00\x01m\x16\x00\x01\xff")
}

// Mi1: a reason of 0, and no properties, may be there all the same.
func TestDecodeNeedless(t *testing.T) {
	for _, kind := range []int{api.Disconnect, api.Auth} {
		decoded(t, kinds()[kind], "\x00", api.Packet{Kind: kind}, "")
		decoded(t, kinds()[kind], "\x00\x00", api.Packet{Kind: kind}, "")
		decoded(t, kinds()[kind], string([]byte{byte(codes(kind)[1]), 0}), api.Packet{Kind: kind, Reason: codes(kind)[1]}, "")
	}
}

// Mi1: the first byte.
func TestDecodeFirst(t *testing.T) {
	firsts := map[int]int{}
	for kind, first := range kinds() {
		firsts[first] = kind
	}
	for first := -300; first < 600; first++ {
		if kind, ok := firsts[first]; ok {
			decoded(t, first, "", api.Packet{Kind: kind}, "")
			continue
		}
		refused(t, first, "", "malformed, reason 129, at 0")
		refused(t, first, "\x00", "malformed, reason 129, at 0")
	}
}

// Mi1: a Pingreq and a Pingresp have nothing behind the first byte.
func TestDecodePing(t *testing.T) {
	for _, first := range []int{0xc0, 0xd0} {
		for _, s := range []string{"\x00", "\x00\x00", "\xff", "abc"} {
			refused(t, first, s, "malformed, reason 129, at 0")
		}
	}
}

// Mi1: all reasons, with whatever follows them.
func TestDecodeReason(t *testing.T) {
	for _, kind := range []int{api.Disconnect, api.Auth} {
		for code := range 256 {
			s := string([]byte{byte(code)})
			if slices.Contains(codes(kind), code) {
				decoded(t, kinds()[kind], s, api.Packet{Kind: kind, Reason: code}, "")
				continue
			}
			for _, behind := range []string{"", "\x00", "\x05", "\x80\x00"} {
				refused(t, kinds()[kind], s+behind, "malformed, reason 129, at 0")
			}
		}
	}
}

// Mi1: the errors of the reader, and of the properties, where they are.
func TestDecodeRefuses(t *testing.T) {
	for _, kind := range []int{api.Disconnect, api.Auth} {
		first := kinds()[kind]
		s := "\x00\x0b\x1f\x00\x01x\x26\x00\x01k\x00\x01v"
		decoded(t, first, s, api.Packet{Kind: kind, Props: []api.Prop{{Id: 31, S: "x"}, {Id: 38, S: "k", V: "v"}}}, "")
		for cut := 2; cut < len(s); cut++ {
			refused(t, first, s[:cut], fmt.Sprint("too few bytes, reason 129, at ", cut))
		}
		refused(t, first, s+"\x00", fmt.Sprint("malformed, reason 129, at ", len(s)))
		refused(t, first, "\x00\x00\x00", "malformed, reason 129, at 2")
		refused(t, first, "\x00\x80", "too few bytes, reason 129, at 2")
		refused(t, first, "\x00\x02\x01\x01", "malformed, reason 129, at 2")
		refused(t, first, "\x00\x04\x1f\x00\x01\xff", "malformed, reason 129, at 5")
		refused(t, first, "\x00\x08\x1f\x00\x01x\x1f\x00\x01y", "against the protocol, reason 130, at 6")
	}
	refused(t, 0xe0, "\x00\x04\x15\x00\x01m", "malformed, reason 129, at 2")
	refused(t, 0xf0, "\x00\x05\x11\x00\x00\x00\x05", "malformed, reason 129, at 2")
}

// Mi1: other kinds.
func TestEncodeKind(t *testing.T) {
	for kind := -20; kind < 300; kind++ {
		if kind < api.Pingreq || kind > api.Auth {
			notEncoded(t, api.Packet{Kind: kind}, "no such thing, reason 128, at 0")
			notEncoded(t, api.Packet{Kind: kind, Reason: -1, Props: []api.Prop{{Id: 4}}}, "no such thing, reason 128, at 0")
		}
	}
	notEncoded(t, api.Packet{Kind: math.MaxInt}, "no such thing, reason 128, at 0")
	notEncoded(t, api.Packet{Kind: math.MinInt}, "no such thing, reason 128, at 0")
}

// Mi1: the errors of Encode, in their order.
func TestEncodeRefuses(t *testing.T) {
	const large = "too large, reason 129, at 0"
	for _, kind := range []int{api.Disconnect, api.Auth} {
		notEncoded(t, api.Packet{Kind: kind, Reason: -1, Props: []api.Prop{{Id: 38}, {Id: 1, N: 1}}}, "malformed, reason 129, at 1")
		notEncoded(t, api.Packet{Kind: kind, Reason: -1, Props: []api.Prop{{Id: 31}, {Id: 31}}}, "against the protocol, reason 130, at 1")
		notEncoded(t, api.Packet{Kind: kind, Reason: -1, Props: slices.Repeat([]api.Prop{{Id: 38}}, 65)}, "too large, reason 149, at 64")
		notEncoded(t, api.Packet{Kind: kind, Reason: -1, Props: []api.Prop{{Id: 31, S: "a\x00"}}}, "malformed, reason 129, at 4")
		for _, n := range []int{-1, 256, math.MinInt, math.MaxInt} {
			notEncoded(t, api.Packet{Kind: kind, Reason: n}, large)
			notEncoded(t, api.Packet{Kind: kind, Reason: n, Props: []api.Prop{{Id: 38}}}, large)
		}
		for code := range 256 {
			if !slices.Contains(codes(kind), code) {
				notEncoded(t, api.Packet{Kind: kind, Reason: code}, "malformed, reason 129, at 0")
				notEncoded(t, api.Packet{Kind: kind, Reason: code, Props: []api.Prop{{Id: 38}}}, "malformed, reason 129, at 0")
			}
		}
	}
	notEncoded(t, api.Packet{Kind: api.Disconnect, Props: []api.Prop{{Id: 17, N: 1 << 32}}}, "too large, reason 129, at 1")
}

// Mi2: what is encoded is decoded unchanged, without what its kind does not have.
func TestReadBack(t *testing.T) {
	rnd := rand.New(rand.NewSource(14))
	for range 3000 {
		kind := api.Pingreq + rnd.Intn(4)
		p := api.Packet{Kind: kind}
		more := api.Packet{
			Kind: kind, Id: -1, Clean: true, Keep: -1, Client: "\x00", Topic: "\x00", Payload: "p", Qos: 9, Retain: true,
			Dup: true, Present: true, HasUser: true, User: "\x00", HasPass: true, Will: api.Last{Has: true, Qos: -1},
			Subs: []api.Sub{{Filter: "a"}}, Filters: []string{"a"}, Codes: []int{1},
		}
		if kind == api.Pingreq || kind == api.Pingresp {
			more.Reason, more.Props = rnd.Intn(999)-300, []api.Prop{{Id: rnd.Intn(40)}}
		} else {
			p.Reason = codes(kind)[rnd.Intn(len(codes(kind)))]
			for range rnd.Intn(3) {
				p.Props = append(p.Props, api.Prop{Id: 38, S: "k", V: "\u00f6"})
			}
			if rnd.Intn(2) > 0 {
				p.Props = append(p.Props, api.Prop{Id: 31, S: "\u20ac"})
			}
			more.Reason, more.Props = p.Reason, p.Props
		}
		f, err := misc.Encode(p)
		if err != nil {
			t.Fatalf("%+v: %v", p, err)
		}
		encoded(t, p, kinds()[kind], f.Body)
		if g, err := misc.Encode(more); g != f || err != nil {
			t.Fatalf("%+v: %+v, %v", more, g, err)
		}
	}
}
