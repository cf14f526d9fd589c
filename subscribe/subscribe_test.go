package subscribe_test

import (
	"fmt"
	"math"
	"math/rand"
	"slices"
	"strings"
	"testing"

	"towncrier/api"
	"towncrier/subscribe"
)

// told is what an error says, nothing for nil.
func told(e error) string {
	if e == nil {
		return ""
	}
	return e.Error()
}

// same tells whether two values are the same; nil and the empty list are.
func same[T any](a, b T) bool {
	return fmt.Sprintf("%+v", a) == fmt.Sprintf("%+v", b)
}

// decoded fails the test unless the bytes are that packet, or have the error.
func decoded(t *testing.T, first int, s string, want api.Packet, wrong string) {
	t.Helper()
	if p, err := subscribe.Decode(api.Frame{First: first, Body: s}); !same(p, want) || told(err) != wrong {
		t.Errorf("Decode(%#x, % .60x) = %+v, %q; want %+v, %q", first, s, p, told(err), want, wrong)
	}
}

// refused fails the test unless the bytes have the error.
func refused(t *testing.T, first int, s, wrong string) {
	t.Helper()
	decoded(t, first, s, api.Packet{}, wrong)
}

// encoded fails the test unless the packet has these bytes, and they are decoded as it.
func encoded(t *testing.T, p api.Packet, first int, want string) {
	t.Helper()
	if f, err := subscribe.Encode(p); f != (api.Frame{First: first, Body: want}) || err != nil {
		t.Errorf("Encode(%+v) = %#x, % .60x, %v; want %#x, % .60x", p, f.First, f.Body, err, first, want)
	}
	decoded(t, first, want, p, "")
}

// notEncoded fails the test unless the packet has the error.
func notEncoded(t *testing.T, p api.Packet, wrong string) {
	t.Helper()
	if f, err := subscribe.Encode(p); f != (api.Frame{}) || told(err) != wrong {
		t.Errorf("Encode(%.200v) = %#x, % .60x, %q; want %q", p, f.First, f.Body, told(err), wrong)
	}
}

// codes are the reasons that a Suback may have.
func codes() []int {
	return []int{0x00, 0x01, 0x02, 0x80, 0x83, 0x87, 0x8f, 0x91, 0x97, 0x9e, 0xa1, 0xa2}
}

// head is what both kinds begin with: the number 0x102, and two properties.
const head = "\x01\x02\x0a\x26\x00\x00\x00\x00\x26\x00\x00\x00\x00"

// subscribing is a Subscribe with that head, subscribed a Suback.
func subscribing(l ...api.Sub) api.Packet {
	return api.Packet{Kind: 8, Id: 0x102, Props: []api.Prop{{Id: 38}, {Id: 38}}, Subs: l}
}
func subscribed(l ...int) api.Packet {
	return api.Packet{Kind: 9, Id: 0x102, Props: []api.Prop{{Id: 38}, {Id: 38}}, Codes: l}
}

// Su1: the bytes of both kinds; the chapter's example is 82; 00 01 00 00 01 61 02.
func TestBytes(t *testing.T) {
	encoded(t, api.Packet{Kind: 8, Id: 1, Subs: []api.Sub{{Filter: "a", Qos: 2}}}, 0x82, "\x00\x01\x00\x00\x01a\x02")
	encoded(t, api.Packet{Kind: 8, Id: 65535, Props: []api.Prop{{Id: 11, N: 300}}, Subs: []api.Sub{{}}}, 0x82, "\xff\xff\x03\x0b\xac\x02\x00\x00\x00")
	encoded(t, subscribing(api.Sub{Filter: "a/#"}, api.Sub{Filter: "\u00f6", Qos: 1, NoLocal: true, AsIs: true, Retain: 2}), 0x82, head+"\x00\x03a/#\x00\x00\x02\u00f6\x2d")
	encoded(t, api.Packet{Kind: 9, Id: 1, Codes: []int{0}}, 0x90, "\x00\x01\x00\x00")
	encoded(t, api.Packet{Kind: 9, Id: 65535, Props: []api.Prop{{Id: 31, S: "x"}}, Codes: []int{0x8f}}, 0x90, "\xff\xff\x04\x1f\x00\x01x\x8f")
	encoded(t, subscribed(codes()...), 0x90, head+"\x00\x01\x02\x80\x83\x87\x8f\x91\x97\x9e\xa1\xa2")
	long := strings.Repeat("x", 65535)
	encoded(t, subscribing(api.Sub{Filter: long}, api.Sub{Filter: long, Qos: 1}), 0x82, head+"\xff\xff"+long+"\x00\xff\xff"+long+"\x01")
}

// Su1: all options, of a first subscription and of a second one.
func TestOptions(t *testing.T) {
	for n := range 256 {
		options := string([]byte{byte(n)})
		wrong := ""
		switch {
		case n > 63:
			wrong = "malformed, reason 129, at "
		case n&3 == 3 || n>>4 == 3:
			wrong = "against the protocol, reason 130, at "
		default:
			s := api.Sub{Filter: "ab", Qos: n & 3, NoLocal: n&4 != 0, AsIs: n&8 != 0, Retain: n >> 4}
			encoded(t, subscribing(s), 0x82, head+"\x00\x02ab"+options)
			encoded(t, subscribing(api.Sub{Filter: "c"}, s), 0x82, head+"\x00\x01c\x00\x00\x02ab"+options)
			continue
		}
		refused(t, 0x82, head+"\x00\x02ab"+options, wrong+"17")
		refused(t, 0x82, head+"\x00\x01c\x00\x00\x02ab"+options, wrong+"21")
		refused(t, 0x82, head+"\x00\x01c\x00\x00\x02ab"+options+"\xff", wrong+"21")
	}
}

// Su1: all codes, of a first part and of a second one.
func TestCodes(t *testing.T) {
	for n := range 256 {
		code := string([]byte{byte(n)})
		if slices.Contains(codes(), n) {
			encoded(t, subscribed(n), 0x90, head+code)
			encoded(t, subscribed(2, n, n), 0x90, head+"\x02"+code+code)
			continue
		}
		refused(t, 0x90, head+code, "malformed, reason 129, at 13")
		refused(t, 0x90, head+"\x02"+code+code, "malformed, reason 129, at 14")
	}
}

// Su1: the first byte.
func TestDecodeFirst(t *testing.T) {
	for first := -300; first < 600; first++ {
		if first == 0x82 || first == 0x90 {
			continue
		}
		refused(t, first, "\x00\x01\x00\x00\x01a\x02", "malformed, reason 129, at 0")
		refused(t, first, "", "malformed, reason 129, at 0")
	}
}

// Su1: the number, and the properties, of both kinds.
func TestDecodeHead(t *testing.T) {
	for first, part := range map[int]string{0x82: "\x00\x01a\x00", 0x90: "\x00"} {
		for cut := range len(head) {
			refused(t, first, head[:cut], fmt.Sprint("too few bytes, reason 129, at ", cut))
		}
		for _, behind := range []string{"", "\x00", "\x00" + part, "\x05", "\x80\x00"} {
			refused(t, first, "\x00\x00"+behind, "against the protocol, reason 130, at 0")
		}
		refused(t, first, "\x00\x01\x02\x01\x01"+part, "malformed, reason 129, at 3")
		refused(t, first, "\x00\x01\x80\x00"+part, "malformed, reason 129, at 3")
	}
	refused(t, 0x82, "\x00\x01\x04\x1f\x00\x01x\x00\x01a\x00", "malformed, reason 129, at 3")
	refused(t, 0x90, "\x00\x01\x02\x0b\x01\x00", "malformed, reason 129, at 3")
	refused(t, 0x82, "\x00\x01\x02\x0b\x00\x00\x01a\x00", "against the protocol, reason 130, at 3")
	refused(t, 0x82, "\x00\x01\x04\x0b\x01\x0b\x01\x00\x01a\x00", "against the protocol, reason 130, at 5")
	refused(t, 0x90, "\x00\x01\x06\x1f\x00\x00\x1f\x00\x00\x00", "against the protocol, reason 130, at 6")
}

// Su1: no part at all, and parts that are cut off or are none.
func TestDecodeParts(t *testing.T) {
	refused(t, 0x82, "\x00\x01\x00", "against the protocol, reason 130, at 3")
	refused(t, 0x90, "\x00\x01\x00", "against the protocol, reason 130, at 3")
	refused(t, 0x82, head, "against the protocol, reason 130, at 13")
	refused(t, 0x90, head, "against the protocol, reason 130, at 13")
	s := head + "\x00\x01c\x00\x00\x02ab\x01"
	for cut := len(head) + 1; cut < len(s); cut++ {
		if cut != len(head)+4 {
			refused(t, 0x82, s[:cut], fmt.Sprint("too few bytes, reason 129, at ", cut))
		}
	}
	refused(t, 0x82, head+"\x00\x02a\xff\x00", "malformed, reason 129, at 16")
	refused(t, 0x82, head+"\x00\x02a\xff\xff", "malformed, reason 129, at 16")
	refused(t, 0x82, head+"\x00\x01a\x00\x00\x01\x00\x00", "malformed, reason 129, at 19")
}

// Su1: 32 parts, and no more; of the 33rd it precedes all else.
func TestMany(t *testing.T) {
	const wrong = "too large, reason 149, at "
	sub, one := api.Sub{Filter: "a", Qos: 1}, "\x00\x01a\x01"
	for _, n := range []int{1, 31, 32} {
		encoded(t, subscribing(slices.Repeat([]api.Sub{sub}, n)...), 0x82, head+strings.Repeat(one, n))
		encoded(t, subscribed(slices.Repeat([]int{1}, n)...), 0x90, head+strings.Repeat("\x01", n))
	}
	for _, n := range []int{33, 34, 100} {
		refused(t, 0x82, head+strings.Repeat(one, n), wrong+"141")
		refused(t, 0x90, head+strings.Repeat("\x01", n), wrong+"45")
		notEncoded(t, subscribing(slices.Repeat([]api.Sub{sub}, n)...), wrong+"141")
		notEncoded(t, subscribed(slices.Repeat([]int{1}, n)...), wrong+"45")
	}
	for _, bad := range []string{"\x00", "\x00\x01", "\xff\xff\xff", "\x00\x01\x00\x00"} {
		refused(t, 0x82, head+strings.Repeat(one, 32)+bad, wrong+"141")
		refused(t, 0x90, head+strings.Repeat("\x01", 32)+"\x03"+bad, wrong+"45")
	}
	refused(t, 0x82, head+strings.Repeat(one, 31)+"\x00\x01a\x40"+one, "malformed, reason 129, at 140")
	refused(t, 0x90, head+strings.Repeat("\x01", 31)+"\x03\x01", "malformed, reason 129, at 44")
}

// Su1: other kinds.
func TestEncodeKind(t *testing.T) {
	for kind := -20; kind < 300; kind++ {
		if kind != 8 && kind != 9 {
			p := api.Packet{Kind: kind, Id: -1, Props: []api.Prop{{Id: 4}}, Subs: []api.Sub{{Filter: "a"}}, Codes: []int{0}}
			notEncoded(t, p, "no such thing, reason 128, at 0")
			p.Id, p.Props = 1, nil
			notEncoded(t, p, "no such thing, reason 128, at 0")
		}
	}
}

// Su1: the errors of Encode, in their order.
func TestEncodeRefuses(t *testing.T) {
	const large = "too large, reason 129, at "
	bad := []api.Sub{{Filter: "\x00", Qos: -1}}
	for _, kind := range []int{8, 9} {
		notEncoded(t, api.Packet{Kind: kind, Id: -1, Props: []api.Prop{{Id: 38}, {Id: 1, N: 1}}, Subs: bad, Codes: []int{-1}}, "malformed, reason 129, at 1")
		notEncoded(t, api.Packet{Kind: kind, Id: -1, Props: slices.Repeat([]api.Prop{{Id: 38}}, 65)}, "too large, reason 149, at 64")
		notEncoded(t, api.Packet{Kind: kind, Id: -1, Props: []api.Prop{{Id: 38, V: "\x00"}}}, "malformed, reason 129, at 5")
		for _, id := range []int{-1, 65536, math.MinInt, math.MaxInt} {
			notEncoded(t, api.Packet{Kind: kind, Id: id, Subs: bad, Codes: []int{-1}}, large+"0")
		}
		notEncoded(t, api.Packet{Kind: kind, Subs: []api.Sub{{}}, Codes: []int{0}}, "against the protocol, reason 130, at 0")
		notEncoded(t, api.Packet{Kind: kind}, "against the protocol, reason 130, at 0")
	}
	for _, n := range []int{-1, 4, 16, math.MinInt, math.MaxInt} {
		notEncoded(t, subscribing(api.Sub{Filter: "a", Qos: n}), large+"16")
		notEncoded(t, subscribing(api.Sub{Filter: "a", Retain: n}), large+"16")
		notEncoded(t, subscribing(api.Sub{Filter: "a"}, api.Sub{Qos: n, Retain: n}), large+"19")
	}
	for _, n := range []int{-1, 256, math.MinInt, math.MaxInt} {
		notEncoded(t, subscribed(1, n, 3), large+"14")
	}
	notEncoded(t, subscribing(api.Sub{Filter: "a\x00", Qos: -1}), "malformed, reason 129, at 16")
	notEncoded(t, subscribing(api.Sub{Filter: strings.Repeat("x", 65536)}), large+"65550")
	notEncoded(t, subscribing(api.Sub{Filter: "a", Qos: 3}, api.Sub{Qos: -1}), large+"19")
	notEncoded(t, subscribing(api.Sub{Filter: "a", Qos: 3}), "against the protocol, reason 130, at 16")
	notEncoded(t, subscribing(api.Sub{Filter: "a", Retain: 3}), "against the protocol, reason 130, at 16")
	notEncoded(t, subscribing(), "against the protocol, reason 130, at 13")
	notEncoded(t, subscribed(), "against the protocol, reason 130, at 13")
	for n := range 256 {
		if !slices.Contains(codes(), n) {
			notEncoded(t, subscribed(0, n), "malformed, reason 129, at 14")
		}
	}
}

// Su2: what is encoded is decoded unchanged, without what its kind does not have.
func TestReadBack(t *testing.T) {
	rnd := rand.New(rand.NewSource(12))
	for range 3000 {
		p := api.Packet{Kind: 8 + rnd.Intn(2), Id: 1 + rnd.Intn(65535)}
		more := api.Packet{
			Kind: p.Kind, Id: p.Id, Reason: -1, Clean: true, Keep: -1, Client: "\x00", Topic: "\x00", Payload: "p", Qos: 9, Retain: true,
			Dup: true, Present: true, HasUser: true, User: "\x00", HasPass: true, Will: api.Last{Has: true, Qos: -1},
			Filters: []string{"\x00"}, Codes: []int{-1}, Subs: []api.Sub{{Qos: -1}},
		}
		for range rnd.Intn(3) {
			p.Props = append(p.Props, api.Prop{Id: 38, S: "k", V: "\u00f6"})
		}
		first := 0x82
		for range 1 + rnd.Intn(32) {
			if p.Kind == 8 {
				p.Subs = append(p.Subs, api.Sub{Filter: strings.Repeat("+/", rnd.Intn(4)), Qos: rnd.Intn(3), NoLocal: rnd.Intn(2) > 0, AsIs: rnd.Intn(2) > 0, Retain: rnd.Intn(3)})
				more.Subs = p.Subs
			} else {
				first = 0x90
				p.Codes = append(p.Codes, codes()[rnd.Intn(len(codes()))])
				more.Codes = p.Codes
			}
		}
		more.Props = p.Props
		f, err := subscribe.Encode(p)
		if err != nil {
			t.Fatalf("%+v: %v", p, err)
		}
		encoded(t, p, first, f.Body)
		if g, err := subscribe.Encode(more); g != f || err != nil {
			t.Fatalf("%+v: %+v, %v", more, g, err)
		}
	}
}
