package publish_test

import (
	"fmt"
	"math"
	"math/rand"
	"slices"
	"strings"
	"testing"

	"towncrier/api"
	"towncrier/publish"
)

// told is what an error says, nothing for nil.
func told(e error) string {
	if e == nil {
		return ""
	}
	return e.Error()
}

// same tells whether two values are the same; nil and the empty list are.
func same[T any](a, b T) bool {
	return fmt.Sprintf("%+v", a) == fmt.Sprintf("%+v", b)
}

// decoded fails the test unless the bytes are that packet, or have the error.
func decoded(t *testing.T, first int, s string, want api.Packet, wrong string) {
	t.Helper()
	if p, err := publish.Decode(api.Frame{First: first, Body: s}); !same(p, want) || told(err) != wrong {
		t.Errorf("Decode(%#x, % .60x) = %.300v, %q; want %.300v, %q", first, s, p, told(err), want, wrong)
	}
}

// refused fails the test unless the bytes have the error.
func refused(t *testing.T, first int, s, wrong string) {
	t.Helper()
	decoded(t, first, s, api.Packet{}, wrong)
}

// encoded fails the test unless the packet has these bytes, and they are decoded as it.
func encoded(t *testing.T, p api.Packet, first int, want string) {
	t.Helper()
	if f, err := publish.Encode(p); f != (api.Frame{First: first, Body: want}) || err != nil {
		t.Errorf("Encode(%.300v) = %#x, % .60x, %v; want %#x, % .60x", p, f.First, f.Body, err, first, want)
	}
	decoded(t, first, want, p, "")
}

// notEncoded fails the test unless the packet has the error.
func notEncoded(t *testing.T, p api.Packet, wrong string) {
	t.Helper()
	if f, err := publish.Encode(p); f != (api.Frame{}) || told(err) != wrong {
		t.Errorf("Encode(%.200v) = %#x, % .60x, %q; want %q", p, f.First, f.Body, told(err), wrong)
	}
}

// Pu1: the bytes of Publishes; the chapter's example is 32; 00 01 74 00 07 00.
func TestBytes(t *testing.T) {
	encoded(t, api.Packet{Kind: 3, Topic: "t", Qos: 1, Id: 7}, 0x32, "\x00\x01t\x00\x07\x00")
	encoded(t, api.Packet{Kind: 3}, 0x30, "\x00\x00\x00")
	encoded(t, api.Packet{Kind: 3, Topic: "a/\u00f6", Payload: "\x00\xff"}, 0x30, "\x00\x04a/\u00f6\x00\x00\xff")
	encoded(t, api.Packet{Kind: 3, Topic: "t", Retain: true}, 0x31, "\x00\x01t\x00")
	encoded(t, api.Packet{Kind: 3, Topic: "t", Qos: 1, Id: 0x102, Dup: true, Payload: "p"}, 0x3a, "\x00\x01t\x01\x02\x00p")
	encoded(t, api.Packet{Kind: 3, Topic: "t", Qos: 2, Id: 65535, Payload: "p"}, 0x34, "\x00\x01t\xff\xff\x00p")
	encoded(t, api.Packet{Kind: 3, Topic: "t", Qos: 2, Id: 1, Dup: true, Retain: true}, 0x3d, "\x00\x01t\x00\x01\x00")
	encoded(t, api.Packet{Kind: 3, Topic: "t", Payload: "p", Props: []api.Prop{{Id: 1, N: 1}, {Id: 11, N: 300}, {Id: 11, N: 1}}}, 0x30, "\x00\x01t\x07\x01\x01\x0b\xac\x02\x0b\x01p")
	encoded(t, api.Packet{Kind: 3, Qos: 2, Id: 1, Props: []api.Prop{{Id: 35, N: 9}}}, 0x34, "\x00\x00\x00\x01\x03\x23\x00\x09")
	long := strings.Repeat("x", 70000)
	encoded(t, api.Packet{Kind: 3, Topic: long[:65535], Payload: long}, 0x30, "\xff\xff"+long[:65535]+"\x00"+long)
}

// Pu1: all first bytes, and numbers that are none.
func TestDecodeFirst(t *testing.T) {
	for first := -300; first < 600; first++ {
		qos := first >> 1 & 3
		switch {
		case first < 0x30 || first > 0x3f || qos == 3 || qos == 0 && first&8 != 0:
			refused(t, first, "\x00\x01t\x00\x07\x00p", "malformed, reason 129, at 0")
			refused(t, first, "", "malformed, reason 129, at 0")
		case qos == 0:
			encoded(t, api.Packet{Kind: 3, Topic: "t", Retain: first&1 > 0, Payload: "p"}, first, "\x00\x01t\x00p")
		default:
			p := api.Packet{Kind: 3, Topic: "t", Qos: qos, Id: 7, Retain: first&1 > 0, Dup: first&8 > 0, Payload: "p"}
			encoded(t, p, first, "\x00\x01t\x00\x07\x00p")
		}
	}
	for _, first := range []int{math.MinInt, math.MinInt + 0x30, 1<<32 + 0x30, math.MaxInt} {
		refused(t, first, "\x00\x01t\x00p", "malformed, reason 129, at 0")
	}
}

// Pu1: a number of 0.
func TestDecodeNoId(t *testing.T) {
	for _, first := range []int{0x32, 0x33, 0x34, 0x35, 0x3a, 0x3d} {
		refused(t, first, "\x00\x00\x00\x00\x00", "against the protocol, reason 130, at 2")
		refused(t, first, "\x00\x03abc\x00\x00\x05", "against the protocol, reason 130, at 5")
	}
	decoded(t, 0x30, "\x00\x01t\x00\x00", api.Packet{Kind: 3, Topic: "t", Payload: "\x00"}, "")
}

// Pu1: the errors of the reader, and of the properties, where they are; all that follows is the payload.
func TestDecodeRefuses(t *testing.T) {
	p := api.Packet{Kind: 3, Topic: "t\u00f6", Qos: 1, Id: 7, Props: []api.Prop{{Id: 2, N: 5}, {Id: 38, S: "k", V: "v"}}}
	s := "\x00\x03t\u00f6\x00\x07\x0c\x02\x00\x00\x00\x05\x26\x00\x01k\x00\x01v"
	for cut := range len(s) {
		refused(t, 0x32, s[:cut], fmt.Sprint("too few bytes, reason 129, at ", cut))
	}
	for _, payload := range []string{"", "\x00", "abc", strings.Repeat("\xff", 66000)} {
		p.Payload = payload
		encoded(t, p, 0x32, s+payload)
	}
	refused(t, 0x30, "\x00\x02t\x00\x00", "malformed, reason 129, at 3")
	refused(t, 0x30, "\x00\x02t\xff\x00", "malformed, reason 129, at 3")
	refused(t, 0x30, "\x00\x01t\x02\x04\x00", "malformed, reason 129, at 4")
	refused(t, 0x34, "\x00\x01t\x00\x01\x02\x18\x00", "malformed, reason 129, at 6")
	refused(t, 0x30, "\x00\x01t\x02\x01\x02", "against the protocol, reason 130, at 4")
	refused(t, 0x30, "\x00\x01t\x06\x23\x00\x01\x23\x00\x01", "against the protocol, reason 130, at 7")
	refused(t, 0x30, "\x00\x01t\x80\x80\x80\x80", "malformed, reason 129, at 6")
}

// Pu1: whatever Kind is, and without what a Publish does not have.
func TestEncodeOnlyItsFields(t *testing.T) {
	for _, kind := range []int{0, 1, 3, 16, -1, math.MaxInt} {
		p := api.Packet{
			Kind: kind, Id: -1, Reason: -1, Clean: true, Keep: -1, Client: "\x00", HasUser: true, User: "\x00", HasPass: true, Pass: "p",
			Will: api.Last{Has: true, Qos: -1, Props: []api.Prop{{Id: 4}}}, Present: true, Topic: "t", Payload: "p",
			Subs: []api.Sub{{Filter: "a"}}, Filters: []string{"a"}, Codes: []int{1},
		}
		if f, err := publish.Encode(p); f != (api.Frame{First: 0x30, Body: "\x00\x01t\x00p"}) || err != nil {
			t.Errorf("Encode of kind %d = %#x, % x, %v", kind, f.First, f.Body, err)
		}
	}
	for _, id := range []int{7, 0, 65536, math.MinInt} {
		if f, err := publish.Encode(api.Packet{Kind: 3, Topic: "t", Id: id}); f.Body != "\x00\x01t\x00" || err != nil {
			t.Errorf("Encode with QoS 0 and number %d = % x, %v", id, f.Body, err)
		}
	}
}

// Pu1: the errors of Encode, in their order.
func TestEncodeRefuses(t *testing.T) {
	const at0, large = "malformed, reason 129, at 0", "too large, reason 129, at "
	long := strings.Repeat("x", 65536)
	bad := []api.Prop{{Id: 38}, {Id: 33, N: 1}}
	for _, qos := range []int{-1, 4, 8, math.MinInt, math.MaxInt} {
		notEncoded(t, api.Packet{Qos: qos, Id: 1}, at0)
		notEncoded(t, api.Packet{Qos: qos, Id: -1, Topic: "\xff", Props: bad}, at0)
	}
	for _, qos := range []int{0, 1, 2, 3} {
		notEncoded(t, api.Packet{Qos: qos, Props: bad, Topic: "\xff", Id: -1}, "malformed, reason 129, at 1")
		notEncoded(t, api.Packet{Qos: qos, Topic: "\xff", Id: -1}, "malformed, reason 129, at 2")
		notEncoded(t, api.Packet{Qos: qos, Topic: long, Id: 1}, large+"65537")
		notEncoded(t, api.Packet{Qos: qos, Props: []api.Prop{{Id: 35, N: 65536}}, Id: 1}, large+"1")
		notEncoded(t, api.Packet{Qos: qos, Props: slices.Repeat([]api.Prop{{Id: 38}}, 65)}, "too large, reason 149, at 64")
	}
	for _, id := range []int{-1, 65536, math.MinInt, math.MaxInt} {
		notEncoded(t, api.Packet{Qos: 1, Topic: "ab", Id: id}, large+"4")
		notEncoded(t, api.Packet{Qos: 2, Topic: "", Id: id}, large+"2")
	}
	notEncoded(t, api.Packet{Qos: 1, Topic: "ab"}, "against the protocol, reason 130, at 4")
	notEncoded(t, api.Packet{Qos: 2, Dup: true}, "against the protocol, reason 130, at 2")
	notEncoded(t, api.Packet{Qos: 3, Id: 1}, at0)
	notEncoded(t, api.Packet{Qos: 3, Id: -1, Dup: true}, at0)
	notEncoded(t, api.Packet{Topic: "ab", Dup: true}, at0)
}

// Pu2: what is encoded is decoded unchanged, and encoded again as the same bytes.
func TestReadBack(t *testing.T) {
	rnd := rand.New(rand.NewSource(10))
	pick := func(l ...string) string { return l[rnd.Intn(len(l))] }
	for range 5000 {
		p := api.Packet{Kind: 3, Topic: pick("", "t", "a/\u20ac"), Payload: pick("", "\x00", "xyz\xff"), Qos: rnd.Intn(3), Retain: rnd.Intn(2) > 0}
		first := 0x30 + 2*p.Qos
		if p.Qos > 0 {
			p.Id, p.Dup = 1+rnd.Intn(65535), rnd.Intn(2) > 0
		}
		if p.Dup {
			first += 8
		}
		if p.Retain {
			first++
		}
		for range rnd.Intn(3) {
			p.Props = append(p.Props, api.Prop{Id: 38, S: pick("", "k"), V: "\u00f6"}, api.Prop{Id: 11, N: 1 + rnd.Intn(1000)})
		}
		for _, x := range []api.Prop{{Id: 2, N: rnd.Intn(1 << 32)}, {Id: 8, S: "r"}, {Id: 9, S: "\xff"}, {Id: 35, N: 1 + rnd.Intn(9)}} {
			if rnd.Intn(2) > 0 {
				p.Props = append(p.Props, x)
			}
		}
		f, err := publish.Encode(p)
		if err != nil {
			t.Fatalf("%+v: %v", p, err)
		}
		encoded(t, p, first, f.Body)
	}
}
