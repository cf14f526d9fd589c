package prop_test

import (
	"fmt"
	"math/rand"
	"slices"
	"strings"
	"testing"

	"towncrier/api"
	"towncrier/field"
	"towncrier/prop"
)

// encoded fails the test unless the properties' bytes are these, or the error.
func encoded(t *testing.T, place int, l []api.Prop, want, wrong string) {
	t.Helper()
	if s, err := prop.Encode(place, l); s != want || told(err) != wrong {
		t.Errorf("Encode(%d, %.60v) = % .60x, %q; want % .60x, %q", place, l, s, told(err), want, wrong)
	}
}

// read fails the test unless a reader behind some bytes, with others behind, reads the properties, or the error; its place counts from the beginning of s.
func read(t *testing.T, place int, s string, want []api.Prop, wrong string, at int) {
	t.Helper()
	for _, by := range []int{0, 1, 7} {
		for _, behind := range []string{"", "\x00\xff"} {
			r := field.New(strings.Repeat("-", by) + s + behind)
			r.Raw(by)
			message := wrong
			if wrong != "" {
				message += fmt.Sprint(at + by)
			}
			l, err := prop.Read(r, place)
			if !slices.Equal(l, want) || told(err) != message {
				t.Errorf("Read(% .60x, %d) = %.60v, %q; want %.60v, %q", s, place, l, told(err), want, message)
			}
			if err == nil && (r.At() != by+len(s) || r.Rest() != behind) {
				t.Errorf("Read(% .60x, %d) leaves the reader at %d", s, place, r.At())
			}
		}
	}
}

// Pr2: the bytes of each type.
func TestEncode(t *testing.T) {
	encoded(t, 3, nil, "\x00", "")
	encoded(t, 12, nil, "\x00", "")
	encoded(t, 99, []api.Prop{}, "\x00", "")
	encoded(t, 3, []api.Prop{{Id: 1, N: 1}}, "\x02\x01\x01", "")
	encoded(t, 2, []api.Prop{{Id: 19, N: 0x102}}, "\x03\x13\x01\x02", "")
	encoded(t, 3, []api.Prop{{Id: 2, N: 0x1020304}}, "\x05\x02\x01\x02\x03\x04", "")
	encoded(t, 8, []api.Prop{{Id: 11, N: 321}}, "\x03\x0b\xc1\x02", "")
	encoded(t, 3, []api.Prop{{Id: 3, S: "a"}}, "\x04\x03\x00\x01a", "")
	encoded(t, 3, []api.Prop{{Id: 9, S: "\x00\xff"}}, "\x05\x09\x00\x02\x00\xff", "")
	encoded(t, 14, []api.Prop{{Id: 38, S: "k", V: "vw"}}, "\x08\x26\x00\x01k\x00\x02vw", "")
	encoded(t, 5, []api.Prop{{Id: 38}, {Id: 31, S: "x"}, {Id: 38, V: "y"}}, "\x0f\x26\x00\x00\x00\x00\x1f\x00\x01x\x26\x00\x00\x00\x01y", "")
}

// Pr2: what a property's type does not have is not written.
func TestEncodeOnlyItsType(t *testing.T) {
	encoded(t, 3, []api.Prop{{Id: 1, N: 1, S: "s", V: "v"}}, "\x02\x01\x01", "")
	encoded(t, 3, []api.Prop{{Id: 3, N: -5, S: "a", V: "\xff"}}, "\x04\x03\x00\x01a", "")
	encoded(t, 3, []api.Prop{{Id: 9, N: 1 << 40, S: "a", V: "v"}}, "\x04\x09\x00\x01a", "")
	encoded(t, 3, []api.Prop{{Id: 38, N: 7, S: "a", V: "b"}}, "\x07\x26\x00\x01a\x00\x01b", "")
}

// Pr2: the error of Check, and behind it that of the Writer.
func TestEncodeRefuses(t *testing.T) {
	const large, bad = "too large, reason 129, at ", "malformed, reason 129, at "
	long := strings.Repeat("x", 65536)
	encoded(t, 12, many(1), "", malformed+"0")
	encoded(t, 3, many(65), "", tooMany+"64")
	encoded(t, 1, []api.Prop{{Id: 17}, {Id: 33}}, "", protocol+"1")
	encoded(t, 1, []api.Prop{{Id: 17}, {Id: 17}}, "", protocol+"1")
	encoded(t, 2, []api.Prop{{Id: 19, N: 65536}}, "", large+"1")
	encoded(t, 2, []api.Prop{{Id: 19, N: -1}}, "", large+"1")
	encoded(t, 1, []api.Prop{{Id: 33, N: 65536}}, "", large+"1")
	encoded(t, 1, []api.Prop{{Id: 38}, {Id: 17, N: 1 << 32}}, "", large+"6")
	encoded(t, 1, []api.Prop{{Id: 39, N: 1 << 32}}, "", large+"1")
	encoded(t, 3, []api.Prop{{Id: 11, N: 1}, {Id: 11, N: 1 << 28}}, "", large+"3")
	encoded(t, 3, []api.Prop{{Id: 9, S: long}}, "", large+"1")
	encoded(t, 3, []api.Prop{{Id: 3, S: long}}, "", large+"65538")
	encoded(t, 3, []api.Prop{{Id: 3, S: "a\x00"}}, "", bad+"4")
	encoded(t, 3, []api.Prop{{Id: 38, S: "ab", V: "c\xff"}}, "", bad+"8")
	encoded(t, 3, []api.Prop{{Id: 38, S: "\x00", V: "\x00"}}, "", bad+"3")
	encoded(t, 3, []api.Prop{{Id: 38, S: "\x00"}, {Id: 35}}, "", protocol+"1")
}

// Pr2: more bytes than one byte can count.
func TestEncodeLong(t *testing.T) {
	s := strings.Repeat("x", 65535)
	encoded(t, 3, []api.Prop{{Id: 8, S: s[:125]}}, "\x80\x01\x08\x00\x7d"+s[:125], "")
	one := "\x26\xff\xff" + s + "\xff\xff" + s
	l := slices.Repeat([]api.Prop{{Id: 38, S: s, V: s}}, 64)
	encoded(t, 3, l, ahead(strings.Repeat(one, 64)), "")
	read(t, 3, ahead(strings.Repeat(one, 64)), l, "", 0)
}

// Pr3: what is read.
func TestRead(t *testing.T) {
	for place := -1; place < 20; place++ {
		read(t, place, "\x00", nil, "", 0)
	}
	for id, x := range table() {
		p := example(id)
		for _, place := range x.places {
			read(t, place, ahead(raw(p)), []api.Prop{p}, "", 0)
			read(t, place, ahead(raw(p)+raw(example(38))+raw(example(38))), []api.Prop{p, example(38), example(38)}, "", 0)
		}
	}
	read(t, 3, ahead(strings.Repeat(raw(example(38)), 64)), slices.Repeat([]api.Prop{example(38)}, 64), "", 0)
	read(t, 3, ahead("\x0b\x01\x0b\x02"), []api.Prop{{Id: 11, N: 1}, {Id: 11, N: 2}}, "", 0)
}

// Pr3: the errors of Check, at the first byte of the property.
func TestReadRefuses(t *testing.T) {
	pairs := strings.Repeat(raw(example(38)), 64)
	user := raw(example(38))
	for place := -1; place < 20; place++ {
		for id := range 128 {
			if x := table()[id]; !slices.Contains(x.places, place) {
				read(t, place, ahead(string([]byte{byte(id), 1, 1, 1, 1, 1})), nil, malformed, 1)
			}
		}
	}
	read(t, 3, ahead(user+"\x04"), nil, malformed, 1+len(user))
	read(t, 3, ahead(user+"\x80\x01"), nil, malformed, 1+len(user))
	read(t, 3, ahead(user+"\xa6\x02"), nil, malformed, 1+len(user))
	read(t, 3, ahead(pairs+user), nil, tooMany, 2+64*len(user))
	read(t, 3, ahead(pairs+"\x04"), nil, tooMany, 2+64*len(user))
	read(t, 3, ahead(pairs[len(user):]+"\x04"), nil, malformed, 2+63*len(user))
	read(t, 1, ahead("\x21\x00\x01\x21\x00\x01"), nil, protocol, 4)
	read(t, 8, ahead("\x0b\x01"+user+"\x0b\x01"), nil, protocol, 3+len(user))
	for _, id := range ids() {
		x := table()[id]
		for _, n := range []int{0, 2, 255} {
			p := api.Prop{Id: id, N: n}
			if s := raw(p); x.one && n > 1 || x.some && n == 0 {
				read(t, x.places[0], ahead(s), nil, protocol, 1)
				read(t, x.places[0], ahead(user+s+user), nil, protocol, 1+len(user))
			}
		}
	}
}

// Pr3: the errors of the readers, which have their own places.
func TestReadShort(t *testing.T) {
	const short, bad = "too few bytes, reason 129, at ", "malformed, reason 129, at "
	read(t, 3, "\x80\x80\x80\x80", nil, bad, 3)
	read(t, 3, "\x80\x00", nil, bad, 1)
	read(t, 3, "\x01\x80", nil, short, 2)
	read(t, 3, "\x02\x80\x00", nil, bad, 2)
	read(t, 3, "\x05\x80\x80\x80\x80\x01", nil, bad, 4)
	read(t, 3, "\x01\x01", nil, short, 2)
	read(t, 3, "\x03\x01\x01\x02", nil, short, 4)
	read(t, 3, "\x04\x02\x00\x00\x00", nil, short, 5)
	read(t, 3, "\x02\x23\x00", nil, short, 3)
	read(t, 3, "\x03\x0b\x80\x80", nil, short, 4)
	read(t, 3, "\x03\x0b\x80\x00", nil, bad, 3)
	read(t, 3, "\x03\x03\x00\x02", nil, short, 4)
	read(t, 3, "\x05\x03\x00\x02a\x00", nil, bad, 5)
	read(t, 3, "\x05\x09\x00\x03ab", nil, short, 6)
	read(t, 3, "\x06\x26\x00\x01k\x00\x01", nil, short, 7)
	read(t, 3, "\x07\x26\x00\x01k\x00\x01\xff", nil, bad, 7)
	for _, s := range []string{"", "\x80", "\x01", "\x05\x01\x01\x01\x01", "\xff\x01\x01"} {
		for _, by := range []int{0, 3} {
			r := field.New(strings.Repeat("-", by) + s)
			r.Raw(by)
			l, err := prop.Read(r, 3)
			if want := fmt.Sprint(short, by+len(s)); l != nil || told(err) != want || told(r.Err()) != want {
				t.Errorf("Read(% x) = %v, %q; want %q", s, l, told(err), want)
			}
		}
	}
}

// Pr3: at one property, the identifier precedes the first errors of Check, these what it has, and that the last error of Check.
func TestReadOrder(t *testing.T) {
	const short = "too few bytes, reason 129, at "
	user := raw(example(38))
	read(t, 3, ahead(strings.Repeat(user, 64)+"\x80"), nil, short, 2+64*len(user)+1)
	read(t, 3, ahead(strings.Repeat(user, 64)+"\x23\x00"), nil, tooMany, 2+64*len(user))
	read(t, 1, ahead("\x23\x00"), nil, malformed, 1)
	read(t, 1, ahead("\x21\x00\x01\x21\x00"), nil, protocol, 4)
	read(t, 1, ahead("\x21\x00"), nil, short, 3)
	read(t, 1, ahead("\x21\x00\x00\x04"), nil, protocol, 1)
	read(t, 1, ahead("\x04\x21\x00\x00"), nil, malformed, 1)
}

// Pr3: a reader that has an error already, and none.
func TestReadNothing(t *testing.T) {
	r := field.New("\x00\x00")
	r.Raw(-1)
	if l, err := prop.Read(r, 3); l != nil || told(err) != "too large, reason 129, at 0" {
		t.Errorf("Read = %v, %q", l, told(err))
	}
	if l, err := prop.Read(nil, 3); l != nil || err != nil {
		t.Errorf("Read(nil) = %v, %v", l, err)
	}
	if l, err := prop.Read(&field.Reader{}, 3); l != nil || told(err) != "too few bytes, reason 129, at 0" {
		t.Errorf("Read of nothing = %v, %q", l, told(err))
	}
}

// Pr4: what is allowed is read back as it was encoded.
func TestReadBack(t *testing.T) {
	rnd := rand.New(rand.NewSource(6))
	for place := 1; place <= 16; place++ {
		for range 300 {
			var l []api.Prop
			for range rnd.Intn(12) {
				p := example(ids()[rnd.Intn(len(ids()))])
				if prop.Check(place, append(l[:len(l):len(l)], p)) == nil {
					l = append(l, p)
				}
			}
			s, err := prop.Encode(place, l)
			if err != nil {
				t.Fatal(err)
			}
			read(t, place, s, l, "", 0)
		}
	}
}

// Pr4: nothing is read that is not allowed, and what is read is encoded again.
func TestReadOnlyAllowed(t *testing.T) {
	rnd := rand.New(rand.NewSource(7))
	for range 100000 {
		var s string
		for range rnd.Intn(4) {
			s += raw(example(ids()[rnd.Intn(len(ids()))]))
		}
		b := []byte(ahead(s))
		if i := rnd.Intn(len(b)); rnd.Intn(2) > 0 {
			b[i] = byte(rnd.Intn(50))
		}
		place := 1 + rnd.Intn(16)
		l, err := prop.Read(field.New(string(b)), place)
		if err != nil && l != nil {
			t.Fatalf("% x: %v besides %v", b, l, err)
		}
		if err == nil {
			if e := prop.Check(place, l); e != nil {
				t.Fatalf("% x: reads %v, %v", b, l, e)
			}
			if s, e := prop.Encode(place, l); e != nil || !strings.HasPrefix(string(b), s) {
				t.Fatalf("% x: encoded again as % x, %v", b, s, e)
			}
		}
	}
}
