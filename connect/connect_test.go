package connect_test

import (
	"fmt"
	"math"
	"math/rand"
	"strings"
	"testing"

	"towncrier/api"
	"towncrier/connect"
)

// What a Connect begins with, up to its flags; and the end of the least one: its flags, Keep, no properties, no Client.
const (
	start = "\x00\x04MQTT\x05"
	least = "\x00\x00\x00\x00\x00\x00"
)

// told is what an error says, nothing for nil.
func told(e error) string {
	if e == nil {
		return ""
	}
	return e.Error()
}

// same tells whether two values are the same; nil and the empty list are.
func same[T any](a, b T) bool {
	return fmt.Sprintf("%+v", a) == fmt.Sprintf("%+v", b)
}

// decoded fails the test unless the bytes are that packet, or have the error.
func decoded(t *testing.T, first int, s string, want api.Packet, wrong string) {
	t.Helper()
	if p, err := connect.Decode(api.Frame{First: first, Body: s}); !same(p, want) || told(err) != wrong {
		t.Errorf("Decode(%#x, % .60x) = %+v, %q; want %+v, %q", first, s, p, told(err), want, wrong)
	}
}

// refused fails the test unless the bytes have the error.
func refused(t *testing.T, s, wrong string) {
	t.Helper()
	decoded(t, 0x10, s, api.Packet{}, wrong)
}

// encoded fails the test unless the packet has these bytes, and they are decoded as it.
func encoded(t *testing.T, p api.Packet, want string) {
	t.Helper()
	if f, err := connect.Encode(p); f != (api.Frame{First: 0x10, Body: want}) || err != nil {
		t.Errorf("Encode(%+v) = %#x, % .60x, %v; want % .60x", p, f.First, f.Body, err, want)
	}
	decoded(t, 0x10, want, p, "")
}

// notEncoded fails the test unless the packet has the error.
func notEncoded(t *testing.T, p api.Packet, wrong string) {
	t.Helper()
	if f, err := connect.Encode(p); f != (api.Frame{}) || told(err) != wrong {
		t.Errorf("Encode(%.200v) = %#x, % .60x, %q; want %q", p, f.First, f.Body, told(err), wrong)
	}
}

// full is a Connect that has all there is, and its bytes.
func full() (api.Packet, string) {
	return api.Packet{
		Kind: 1, Clean: true, Keep: 0x102, Props: []api.Prop{{Id: 17, N: 5}, {Id: 38, S: "k", V: "v"}}, Client: "c\u00f6",
		Will:    api.Last{Has: true, Topic: "w/t", Payload: "\x00\xff", Qos: 2, Retain: true, Props: []api.Prop{{Id: 24, N: 9}}},
		HasUser: true, User: "u", HasPass: true, Pass: "\x00p\xff",
	}, start + "\xf6\x01\x02" + "\x0c\x11\x00\x00\x00\x05\x26\x00\x01k\x00\x01v" + "\x00\x03c\u00f6" +
		"\x05\x18\x00\x00\x00\x09" + "\x00\x03w/t" + "\x00\x02\x00\xff" + "\x00\x01u" + "\x00\x03\x00p\xff"
}

// Co1: the bytes of Connects, each flag by itself, and all together.
func TestBytes(t *testing.T) {
	p, s := full()
	encoded(t, p, s)
	encoded(t, api.Packet{Kind: 1}, start+least)
	encoded(t, api.Packet{Kind: 1, Clean: true}, start+"\x02\x00\x00\x00\x00\x00")
	encoded(t, api.Packet{Kind: 1, Keep: 65535}, start+"\x00\xff\xff\x00\x00\x00")
	encoded(t, api.Packet{Kind: 1, Client: "abc"}, start+"\x00\x00\x00\x00\x00\x03abc")
	encoded(t, api.Packet{Kind: 1, Props: []api.Prop{{Id: 33, N: 7}}}, start+"\x00\x00\x00\x03\x21\x00\x07\x00\x00")
	encoded(t, api.Packet{Kind: 1, HasUser: true, User: "u"}, start+"\x80\x00\x00\x00\x00\x00\x00\x01u")
	encoded(t, api.Packet{Kind: 1, HasUser: true}, start+"\x80\x00\x00\x00\x00\x00\x00\x00")
	encoded(t, api.Packet{Kind: 1, HasPass: true, Pass: "\xff"}, start+"\x40\x00\x00\x00\x00\x00\x00\x01\xff")
	encoded(t, api.Packet{Kind: 1, HasPass: true}, start+"\x40\x00\x00\x00\x00\x00\x00\x00")
	encoded(t, api.Packet{Kind: 1, HasUser: true, User: "u", HasPass: true, Pass: "p"}, start+"\xc0\x00\x00\x00\x00\x00\x00\x01u\x00\x01p")
	for qos := range 3 {
		last := api.Last{Has: true, Topic: "t", Payload: "p", Qos: qos}
		encoded(t, api.Packet{Kind: 1, Will: last}, start+string(rune(4+8*qos))+least[1:]+"\x00\x00\x01t\x00\x01p")
		last.Retain = true
		encoded(t, api.Packet{Kind: 1, Will: last}, start+string(rune(36+8*qos))+least[1:]+"\x00\x00\x01t\x00\x01p")
	}
	encoded(t, api.Packet{Kind: 1, Will: api.Last{Has: true}}, start+"\x04"+least[1:]+"\x00\x00\x00\x00\x00")
}

// Co1: the first byte.
func TestDecodeFirst(t *testing.T) {
	p, s := full()
	for first := -300; first < 600; first++ {
		if first == 0x10 {
			decoded(t, first, s, p, "")
			continue
		}
		decoded(t, first, s, api.Packet{}, "malformed, reason 129, at 0")
		decoded(t, first, "", api.Packet{}, "malformed, reason 129, at 0")
	}
}

// Co1: the name and the version; the chapter's example is 00 04 4d 51 54 54 04.
func TestDecodeVersion(t *testing.T) {
	const name, version = "against the protocol, reason 132, at 0", "against the protocol, reason 132, at 6"
	refused(t, "\x00\x04\x4d\x51\x54\x54\x04", version)
	for _, v := range []string{"\x00", "\x03", "\x04", "\x06", "\x05"} {
		if v != "\x05" {
			refused(t, start[:6]+v, version)
			refused(t, start[:6]+v+"\x01\x00", version)
		}
		for _, s := range []string{"\x00\x00", "\x00\x04mqtt", "\x00\x06MQIsdp", "\x00\x03MQT", "\x00\x05MQTTT", "\x00\x04MQTS"} {
			refused(t, s, name)
			refused(t, s+v+"\x01", name)
		}
	}
	refused(t, "\x00\x04MQ\xffT\x05", "malformed, reason 129, at 4")
	refused(t, "\x00\x02\x00M", "malformed, reason 129, at 2")
	refused(t, start[:6], "too few bytes, reason 129, at 6")
	refused(t, start, "too few bytes, reason 129, at 7")
}

// Co1: all flags, with whatever may follow them.
func TestDecodeFlags(t *testing.T) {
	for flags := range 256 {
		qos, will := flags>>3&3, flags&4 != 0
		if flags&1 != 0 || qos == 3 || !will && flags&0x38 != 0 {
			for _, behind := range []string{"", "\x00", least[1:], "\x00\x00\x05"} {
				refused(t, start+string([]byte{byte(flags)})+behind, "malformed, reason 129, at 7")
			}
			continue
		}
		p := api.Packet{Kind: 1, Clean: flags&2 != 0}
		s := start + string([]byte{byte(flags)}) + least[1:]
		if will {
			p.Will = api.Last{Has: true, Topic: "t", Payload: "p", Qos: qos, Retain: flags&32 != 0}
			s += "\x00\x00\x01t\x00\x01p"
		}
		if flags&128 != 0 {
			p.HasUser, p.User = true, "u"
			s += "\x00\x01u"
		}
		if flags&64 != 0 {
			p.HasPass, p.Pass = true, "w"
			s += "\x00\x01w"
		}
		encoded(t, p, s)
	}
}

// Co1: the errors of the reader, and of the properties, where they are.
func TestDecodeRefuses(t *testing.T) {
	_, s := full()
	for cut := range len(s) {
		refused(t, s[:cut], fmt.Sprint("too few bytes, reason 129, at ", cut))
	}
	refused(t, s+"\x00", fmt.Sprint("malformed, reason 129, at ", len(s)))
	refused(t, start+least+"abc", "malformed, reason 129, at 13")
	for old, x := range map[string][2]string{
		"\x11\x00\x00\x00\x05": {"\x02\x00\x00\x00\x05", "malformed, reason 129, at 11"},
		"\x18\x00\x00\x00\x09": {"\x11\x00\x00\x00\x09", "malformed, reason 129, at 29"},
		"\x05\x18":             {"\x05\x05", "malformed, reason 129, at 29"},
		"c\u00f6":              {"c\xc3\x00", "malformed, reason 129, at 26"},
		"w/t":                  {"w\x00t", "malformed, reason 129, at 37"},
		"\x00\x01u":            {"\x00\x01\xff", "malformed, reason 129, at 45"},
		"\x26\x00\x01k":        {"\x26\x00\x01\x00", "malformed, reason 129, at 19"},
	} {
		if strings.Count(s, old) != 1 {
			t.Fatalf("% x occurs %d times", old, strings.Count(s, old))
		}
		refused(t, strings.Replace(s, old, x[0], 1), x[1])
	}
	refused(t, start+"\x00\x00\x00\x06\x21\x00\x01\x21\x00\x01\x00\x00", "against the protocol, reason 130, at 14")
	refused(t, start+"\x04\x00\x00\x00\x00\x00\x04\x01\x00\x01\x01", "against the protocol, reason 130, at 16")
	refused(t, start+"\x04\x00\x00\x00\x00\x00\x02\x01\x02", "against the protocol, reason 130, at 14")
}

// Co1: whatever Kind is, and without what a Connect does not have, or what does not exist.
func TestEncodeOnlyItsFields(t *testing.T) {
	for _, kind := range []int{0, 1, 3, 16, -1, math.MaxInt} {
		p := api.Packet{
			Kind: kind, Id: -1, Reason: 7, Present: true, Topic: "\x00", Payload: "p", Qos: 9, Retain: true, Dup: true,
			Subs: []api.Sub{{Filter: "a"}}, Filters: []string{"a"}, Codes: []int{1}, User: "\x00", Pass: strings.Repeat("x", 70000),
			Will: api.Last{Topic: "\x00", Payload: "p", Qos: -1, Retain: true, Props: []api.Prop{{Id: 4}}},
		}
		if f, err := connect.Encode(p); f != (api.Frame{First: 0x10, Body: start + least}) || err != nil {
			t.Errorf("Encode of kind %d = %#x, % x, %v", kind, f.First, f.Body, err)
		}
	}
}

// Co1: the errors of Encode, in their order.
func TestEncodeRefuses(t *testing.T) {
	const noQos, large = "malformed, reason 129, at 0", "too large, reason 129, at "
	long := strings.Repeat("x", 65536)
	bad := []api.Prop{{Id: 38}, {Id: 4}}
	for _, qos := range []int{-1, 4, 8, math.MinInt, math.MaxInt} {
		notEncoded(t, api.Packet{Will: api.Last{Has: true, Qos: qos}}, noQos)
		notEncoded(t, api.Packet{Props: bad, Keep: -1, Will: api.Last{Has: true, Qos: qos, Props: bad}}, noQos)
	}
	notEncoded(t, api.Packet{Will: api.Last{Has: true, Qos: 3}}, "malformed, reason 129, at 7")
	notEncoded(t, api.Packet{Will: api.Last{Has: true, Qos: 3}, Props: bad}, "malformed, reason 129, at 1")
	notEncoded(t, api.Packet{Will: api.Last{Has: true, Qos: 3, Props: bad}}, "malformed, reason 129, at 1")
	notEncoded(t, api.Packet{Will: api.Last{Has: true, Qos: 3}, Keep: -1}, large+"8")
	notEncoded(t, api.Packet{Props: []api.Prop{{Id: 33}}, Will: api.Last{Has: true, Props: bad}}, "against the protocol, reason 130, at 0")
	notEncoded(t, api.Packet{Props: []api.Prop{{Id: 33, N: 65536}}, Keep: -1}, large+"1")
	notEncoded(t, api.Packet{Props: []api.Prop{{Id: 24}}}, noQos)
	notEncoded(t, api.Packet{Client: "\x00", Will: api.Last{Has: true, Props: []api.Prop{{Id: 38}, {Id: 1, N: 2}}}}, "against the protocol, reason 130, at 1")
	notEncoded(t, api.Packet{Will: api.Last{Has: true, Props: []api.Prop{{Id: 17}}}}, noQos)
	notEncoded(t, api.Packet{Keep: -1}, large+"8")
	notEncoded(t, api.Packet{Keep: 65536, Client: "\x00"}, large+"8")
	notEncoded(t, api.Packet{Client: "a\x00"}, "malformed, reason 129, at 14")
	notEncoded(t, api.Packet{Client: long}, large+"65548")
	notEncoded(t, api.Packet{Will: api.Last{Has: true, Topic: "\xff"}}, "malformed, reason 129, at 16")
	notEncoded(t, api.Packet{Will: api.Last{Has: true, Topic: "t", Payload: long}}, large+"17")
	notEncoded(t, api.Packet{HasUser: true, User: "\x00"}, "malformed, reason 129, at 15")
	notEncoded(t, api.Packet{HasPass: true, Pass: long}, large+"13")
	notEncoded(t, api.Packet{HasUser: true, HasPass: true, Pass: long}, large+"15")
}

// Co1: the properties are those of a Connect, and of a will, and no others.
func TestPlaces(t *testing.T) {
	for id, n := range map[int]int{17: 1, 23: 1, 25: 0, 33: 1, 34: 0, 39: 1} {
		p := api.Packet{Kind: 1, Props: []api.Prop{{Id: id, N: n}}}
		f, err := connect.Encode(p)
		if err != nil {
			t.Errorf("with property %d: %v", id, err)
		}
		decoded(t, f.First, f.Body, p, "")
		notEncoded(t, api.Packet{Will: api.Last{Has: true, Props: p.Props}}, "malformed, reason 129, at 0")
	}
	for id, n := range map[int]int{1: 1, 2: 0, 24: 0} {
		p := api.Packet{Kind: 1, Will: api.Last{Has: true, Props: []api.Prop{{Id: id, N: n}}}}
		f, err := connect.Encode(p)
		if err != nil {
			t.Errorf("with property %d of the will: %v", id, err)
		}
		decoded(t, f.First, f.Body, p, "")
		notEncoded(t, api.Packet{Props: p.Will.Props}, "malformed, reason 129, at 0")
	}
	for _, id := range []int{11, 18, 19, 28, 31, 35, 36} {
		notEncoded(t, api.Packet{Props: []api.Prop{{Id: id, N: 1}}}, "malformed, reason 129, at 0")
		notEncoded(t, api.Packet{Will: api.Last{Has: true, Props: []api.Prop{{Id: id, N: 1}}}}, "malformed, reason 129, at 0")
	}
	refused(t, start+"\x00\x00\x00\x02\x24\x01\x00\x00", "malformed, reason 129, at 11")
	refused(t, start+"\x04\x00\x00\x00\x00\x00\x02\x17\x01\x00\x00\x00\x00", "malformed, reason 129, at 14")
}

// random is some Connect.
func random(rnd *rand.Rand) api.Packet {
	pick := func(l ...string) string { return l[rnd.Intn(len(l))] }
	p := api.Packet{Kind: 1, Clean: rnd.Intn(2) > 0, Keep: rnd.Intn(65536), Client: pick("", "c", "auto1", "\u20ac")}
	for range rnd.Intn(3) {
		p.Props = append(p.Props, api.Prop{Id: 38, S: pick("", "a"), V: pick("", "b")})
	}
	if rnd.Intn(2) > 0 {
		p.Props = append(p.Props, api.Prop{Id: 17, N: rnd.Intn(1 << 32)}, api.Prop{Id: 39, N: 1 + rnd.Intn(9)})
	}
	if rnd.Intn(2) > 0 {
		p.Will = api.Last{Has: true, Topic: pick("", "t", "a/b"), Payload: pick("", "\x00"), Qos: rnd.Intn(3), Retain: rnd.Intn(2) > 0}
		if rnd.Intn(2) > 0 {
			p.Will.Props = []api.Prop{{Id: 24, N: rnd.Intn(99)}, {Id: 9, S: pick("", "\xff")}}
		}
	}
	if p.HasUser = rnd.Intn(2) > 0; p.HasUser {
		p.User = pick("", "u", "\u00f6")
	}
	if p.HasPass = rnd.Intn(2) > 0; p.HasPass {
		p.Pass = pick("", "\xff\x00")
	}
	return p
}

// Co2: what is encoded is decoded unchanged.
func TestReadBack(t *testing.T) {
	rnd := rand.New(rand.NewSource(8))
	for range 3000 {
		p := random(rnd)
		f, err := connect.Encode(p)
		if err != nil {
			t.Fatalf("%+v: %v", p, err)
		}
		decoded(t, f.First, f.Body, p, "")
	}
}

// Co2: what is decoded is encoded as the same bytes.
func TestWrittenBack(t *testing.T) {
	rnd := rand.New(rand.NewSource(9))
	for range 20000 {
		f, _ := connect.Encode(random(rnd))
		b := []byte(f.Body)
		b[7+rnd.Intn(len(b)-7)] = byte(rnd.Intn(256))
		p, err := connect.Decode(api.Frame{First: 0x10, Body: string(b)})
		if err != nil {
			continue
		}
		if g, err := connect.Encode(p); g.Body != string(b) || err != nil {
			t.Fatalf("% x: %+v, encoded as % x, %v", b, p, g.Body, err)
		}
	}
}
