package unsub_test

import (
	"fmt"
	"math"
	"math/rand"
	"slices"
	"strings"
	"testing"

	"towncrier/api"
	"towncrier/unsub"
)

// told is what an error says, nothing for nil.
func told(e error) string {
	if e == nil {
		return ""
	}
	return e.Error()
}

// same tells whether two values are the same; nil and the empty list are.
func same[T any](a, b T) bool {
	return fmt.Sprintf("%+v", a) == fmt.Sprintf("%+v", b)
}

// decoded fails the test unless the bytes are that packet, or have the error.
func decoded(t *testing.T, first int, s string, want api.Packet, wrong string) {
	t.Helper()
	if p, err := unsub.Decode(api.Frame{First: first, Body: s}); !same(p, want) || told(err) != wrong {
		t.Errorf("Decode(%#x, % .60x) = %+v, %q; want %+v, %q", first, s, p, told(err), want, wrong)
	}
}

// refused fails the test unless the bytes have the error.
func refused(t *testing.T, first int, s, wrong string) {
	t.Helper()
	decoded(t, first, s, api.Packet{}, wrong)
}

// encoded fails the test unless the packet has these bytes, and they are decoded as it.
func encoded(t *testing.T, p api.Packet, first int, want string) {
	t.Helper()
	if f, err := unsub.Encode(p); f != (api.Frame{First: first, Body: want}) || err != nil {
		t.Errorf("Encode(%+v) = %#x, % .60x, %v; want %#x, % .60x", p, f.First, f.Body, err, first, want)
	}
	decoded(t, first, want, p, "")
}

// notEncoded fails the test unless the packet has the error.
func notEncoded(t *testing.T, p api.Packet, wrong string) {
	t.Helper()
	if f, err := unsub.Encode(p); f != (api.Frame{}) || told(err) != wrong {
		t.Errorf("Encode(%.200v) = %#x, % .60x, %q; want %q", p, f.First, f.Body, told(err), wrong)
	}
}

// codes are the reasons that an Unsuback may have.
func codes() []int {
	return []int{0x00, 0x11, 0x80, 0x83, 0x87, 0x8f, 0x91}
}

// head is what both kinds begin with: the number 0x102, and two properties.
const head = "\x01\x02\x0a\x26\x00\x00\x00\x00\x26\x00\x00\x00\x00"

// leaving is an Unsubscribe with that head, left an Unsuback.
func leaving(l ...string) api.Packet {
	return api.Packet{Kind: 10, Id: 0x102, Props: []api.Prop{{Id: 38}, {Id: 38}}, Filters: l}
}
func left(l ...int) api.Packet {
	return api.Packet{Kind: 11, Id: 0x102, Props: []api.Prop{{Id: 38}, {Id: 38}}, Codes: l}
}

// Un1: the bytes of both kinds; the chapter's example is a2; 00 01 00 00 01 61.
func TestBytes(t *testing.T) {
	encoded(t, api.Packet{Kind: 10, Id: 1, Filters: []string{"a"}}, 0xa2, "\x00\x01\x00\x00\x01a")
	encoded(t, api.Packet{Kind: 10, Id: 65535, Props: []api.Prop{{Id: 38, S: "k", V: "v"}}, Filters: []string{""}}, 0xa2, "\xff\xff\x07\x26\x00\x01k\x00\x01v\x00\x00")
	encoded(t, leaving("a/#", "\u00f6", "a/#"), 0xa2, head+"\x00\x03a/#\x00\x02\u00f6\x00\x03a/#")
	encoded(t, api.Packet{Kind: 11, Id: 1, Codes: []int{0}}, 0xb0, "\x00\x01\x00\x00")
	encoded(t, api.Packet{Kind: 11, Id: 65535, Props: []api.Prop{{Id: 31, S: "x"}}, Codes: []int{0x11}}, 0xb0, "\xff\xff\x04\x1f\x00\x01x\x11")
	encoded(t, left(codes()...), 0xb0, head+"\x00\x11\x80\x83\x87\x8f\x91")
	long := strings.Repeat("x", 65535)
	encoded(t, leaving(long, long), 0xa2, head+"\xff\xff"+long+"\xff\xff"+long)
}

// Un1: all codes, of a first part and of a second one.
func TestCodes(t *testing.T) {
	for n := range 256 {
		code := string([]byte{byte(n)})
		if slices.Contains(codes(), n) {
			encoded(t, left(n), 0xb0, head+code)
			encoded(t, left(0x11, n, n), 0xb0, head+"\x11"+code+code)
			continue
		}
		refused(t, 0xb0, head+code, "malformed, reason 129, at 13")
		refused(t, 0xb0, head+"\x11"+code+code, "malformed, reason 129, at 14")
	}
}

// Un1: the first byte.
func TestDecodeFirst(t *testing.T) {
	for first := -300; first < 600; first++ {
		if first == 0xa2 || first == 0xb0 {
			continue
		}
		refused(t, first, "\x00\x01\x00\x00\x01a", "malformed, reason 129, at 0")
		refused(t, first, "", "malformed, reason 129, at 0")
	}
}

// Un1: the number, and the properties, of both kinds.
func TestDecodeHead(t *testing.T) {
	for first, part := range map[int]string{0xa2: "\x00\x01a", 0xb0: "\x00"} {
		for cut := range len(head) {
			refused(t, first, head[:cut], fmt.Sprint("too few bytes, reason 129, at ", cut))
		}
		for _, behind := range []string{"", "\x00", "\x00" + part, "\x05", "\x80\x00"} {
			refused(t, first, "\x00\x00"+behind, "against the protocol, reason 130, at 0")
		}
		refused(t, first, "\x00\x01\x02\x01\x01"+part, "malformed, reason 129, at 3")
		refused(t, first, "\x00\x01\x02\x0b\x01"+part, "malformed, reason 129, at 3")
		refused(t, first, "\x00\x01\x80\x00"+part, "malformed, reason 129, at 3")
	}
	refused(t, 0xa2, "\x00\x01\x04\x1f\x00\x01x\x00\x01a", "malformed, reason 129, at 3")
	refused(t, 0xb0, "\x00\x01\x06\x1f\x00\x00\x1f\x00\x00\x00", "against the protocol, reason 130, at 6")
}

// Un1: no part at all, and parts that are cut off or are none.
func TestDecodeParts(t *testing.T) {
	refused(t, 0xa2, "\x00\x01\x00", "against the protocol, reason 130, at 3")
	refused(t, 0xb0, "\x00\x01\x00", "against the protocol, reason 130, at 3")
	refused(t, 0xa2, head, "against the protocol, reason 130, at 13")
	refused(t, 0xb0, head, "against the protocol, reason 130, at 13")
	s := head + "\x00\x01c\x00\x02ab"
	for cut := len(head) + 1; cut < len(s); cut++ {
		if cut != len(head)+3 {
			refused(t, 0xa2, s[:cut], fmt.Sprint("too few bytes, reason 129, at ", cut))
		}
	}
	refused(t, 0xa2, head+"\x00\x02a\xff", "malformed, reason 129, at 16")
	refused(t, 0xa2, head+"\x00\x01a\x00\x01\x00", "malformed, reason 129, at 18")
}

// Un1: 32 parts, and no more; of the 33rd it precedes all else.
func TestMany(t *testing.T) {
	const wrong, one = "too large, reason 149, at ", "\x00\x01a"
	for _, n := range []int{1, 31, 32} {
		encoded(t, leaving(slices.Repeat([]string{"a"}, n)...), 0xa2, head+strings.Repeat(one, n))
		encoded(t, left(slices.Repeat([]int{0x11}, n)...), 0xb0, head+strings.Repeat("\x11", n))
	}
	for _, n := range []int{33, 34, 100} {
		refused(t, 0xa2, head+strings.Repeat(one, n), wrong+"109")
		refused(t, 0xb0, head+strings.Repeat("\x11", n), wrong+"45")
		notEncoded(t, leaving(slices.Repeat([]string{"a"}, n)...), wrong+"109")
		notEncoded(t, left(slices.Repeat([]int{0x11}, n)...), wrong+"45")
	}
	for _, bad := range []string{"\x00", "\x00\x01", "\xff\xff\xff", "\x00\x01\x00\x00"} {
		refused(t, 0xa2, head+strings.Repeat(one, 32)+bad, wrong+"109")
		refused(t, 0xb0, head+strings.Repeat("\x11", 32)+"\x03"+bad, wrong+"45")
	}
	refused(t, 0xa2, head+strings.Repeat(one, 31)+"\x00\x01\xff"+one, "malformed, reason 129, at 108")
	refused(t, 0xb0, head+strings.Repeat("\x11", 31)+"\x03\x11", "malformed, reason 129, at 44")
}

// Un1: other kinds.
func TestEncodeKind(t *testing.T) {
	for kind := -20; kind < 300; kind++ {
		if kind != 10 && kind != 11 {
			p := api.Packet{Kind: kind, Id: -1, Props: []api.Prop{{Id: 4}}, Filters: []string{"a"}, Codes: []int{0}}
			notEncoded(t, p, "no such thing, reason 128, at 0")
			p.Id, p.Props = 1, nil
			notEncoded(t, p, "no such thing, reason 128, at 0")
		}
	}
}

// Un1: the errors of Encode, in their order.
func TestEncodeRefuses(t *testing.T) {
	const large = "too large, reason 129, at "
	for _, kind := range []int{10, 11} {
		notEncoded(t, api.Packet{Kind: kind, Id: -1, Props: []api.Prop{{Id: 38}, {Id: 1, N: 1}}, Filters: []string{"\x00"}, Codes: []int{-1}}, "malformed, reason 129, at 1")
		notEncoded(t, api.Packet{Kind: kind, Id: -1, Props: slices.Repeat([]api.Prop{{Id: 38}}, 65)}, "too large, reason 149, at 64")
		notEncoded(t, api.Packet{Kind: kind, Id: -1, Props: []api.Prop{{Id: 38, V: "\x00"}}}, "malformed, reason 129, at 5")
		for _, id := range []int{-1, 65536, math.MinInt, math.MaxInt} {
			notEncoded(t, api.Packet{Kind: kind, Id: id, Filters: []string{"\x00"}, Codes: []int{-1}}, large+"0")
		}
		notEncoded(t, api.Packet{Kind: kind, Filters: []string{"a"}, Codes: []int{0}}, "against the protocol, reason 130, at 0")
		notEncoded(t, api.Packet{Kind: kind}, "against the protocol, reason 130, at 0")
	}
	for _, n := range []int{-1, 256, math.MinInt, math.MaxInt} {
		notEncoded(t, left(0x11, n, 3), large+"14")
	}
	notEncoded(t, leaving("b", "a\x00"), "malformed, reason 129, at 19")
	notEncoded(t, leaving(strings.Repeat("x", 65536)), large+"65550")
	notEncoded(t, leaving(), "against the protocol, reason 130, at 13")
	notEncoded(t, left(), "against the protocol, reason 130, at 13")
	for n := range 256 {
		if !slices.Contains(codes(), n) {
			notEncoded(t, left(0, n), "malformed, reason 129, at 14")
		}
	}
}

// Un2: what is encoded is decoded unchanged, without what its kind does not have.
func TestReadBack(t *testing.T) {
	rnd := rand.New(rand.NewSource(13))
	for range 3000 {
		p := api.Packet{Kind: 10 + rnd.Intn(2), Id: 1 + rnd.Intn(65535)}
		more := api.Packet{
			Kind: p.Kind, Id: p.Id, Reason: -1, Clean: true, Keep: -1, Client: "\x00", Topic: "\x00", Payload: "p", Qos: 9, Retain: true,
			Dup: true, Present: true, HasUser: true, User: "\x00", HasPass: true, Will: api.Last{Has: true, Qos: -1},
			Filters: []string{"\x00"}, Codes: []int{-1}, Subs: []api.Sub{{Qos: -1}},
		}
		for range rnd.Intn(3) {
			p.Props = append(p.Props, api.Prop{Id: 38, S: "k", V: "\u00f6"})
		}
		first := 0xa2
		for range 1 + rnd.Intn(32) {
			if p.Kind == 10 {
				p.Filters = append(p.Filters, strings.Repeat("+/", rnd.Intn(4)))
				more.Filters = p.Filters
			} else {
				first = 0xb0
				p.Codes = append(p.Codes, codes()[rnd.Intn(len(codes()))])
				more.Codes = p.Codes
			}
		}
		more.Props = p.Props
		f, err := unsub.Encode(p)
		if err != nil {
			t.Fatalf("%+v: %v", p, err)
		}
		encoded(t, p, first, f.Body)
		if g, err := unsub.Encode(more); g != f || err != nil {
			t.Fatalf("%+v: %+v, %v", more, g, err)
		}
	}
}
