package reason_test

import (
	"math"
	"slices"
	"testing"

	"towncrier/api"
	"towncrier/reason"
)

// codes are those of each kind, rising, as the columns of the chapter's table tell them.
func codes() map[int][]int {
	ack := []int{0x00, 0x10, 0x80, 0x83, 0x87, 0x90, 0x91, 0x97, 0x99}
	release := []int{0x00, 0x92}
	return map[int][]int{
		api.Connack: {
			0x00, 0x80, 0x81, 0x82, 0x83, 0x84, 0x85, 0x86, 0x87, 0x88, 0x89, 0x8a, 0x8c, 0x90, 0x95, 0x97, 0x99, 0x9a, 0x9b, 0x9c, 0x9d, 0x9f,
		},
		api.Puback: ack, api.Pubrec: ack, api.Pubrel: release, api.Pubcomp: release,
		api.Suback:   {0x00, 0x01, 0x02, 0x80, 0x83, 0x87, 0x8f, 0x91, 0x97, 0x9e, 0xa1, 0xa2},
		api.Unsuback: {0x00, 0x11, 0x80, 0x83, 0x87, 0x8f, 0x91},
		api.Disconnect: {
			0x00, 0x04, 0x80, 0x81, 0x82, 0x83, 0x87, 0x89, 0x8b, 0x8c, 0x8d, 0x8e, 0x8f, 0x90, 0x93, 0x94, 0x95, 0x96, 0x97, 0x98, 0x99,
			0x9a, 0x9b, 0x9c, 0x9d, 0x9e, 0x9f, 0xa0, 0xa1, 0xa2,
		},
		api.Auth: {0x00, 0x18, 0x19},
	}
}

// outside are numbers that are neither kinds nor codes.
func outside() []int {
	return []int{-1, -2, -128, -256, math.MinInt, 256, 257, 256 + 0x80, 256 + 0x92, 512, 1 << 32, 1<<32 + 0x80, math.MaxInt}
}

// Re1: the table, for all kinds and codes; the chapter's example is Pubrel with 0x92.
func TestAllowed(t *testing.T) {
	if !reason.Allowed(api.Pubrel, 0x92) {
		t.Error("a Pubrel may not have 0x92")
	}
	table := codes()
	for kind := -1; kind <= 17; kind++ {
		for code := range 256 {
			if want := slices.Contains(table[kind], code); reason.Allowed(kind, code) != want {
				t.Errorf("Allowed(%d, %#x) is not %v", kind, code, want)
			}
		}
		for _, code := range outside() {
			if reason.Allowed(kind, code) {
				t.Errorf("Allowed(%d, %d)", kind, code)
			}
		}
	}
	for _, kind := range outside() {
		for code := range 256 {
			if reason.Allowed(kind, code) {
				t.Errorf("Allowed(%d, %#x)", kind, code)
			}
		}
	}
}

// Re1: the codes of a kind, rising; none for others.
func TestAll(t *testing.T) {
	table := codes()
	for kind := -1; kind <= 17; kind++ {
		if l := reason.All(kind); !slices.Equal(l, table[kind]) {
			t.Errorf("All(%d) = %#x, want %#x", kind, l, table[kind])
		}
	}
	for _, kind := range outside() {
		if l := reason.All(kind); len(l) != 0 {
			t.Errorf("All(%d) = %#x", kind, l)
		}
	}
}

// Re1: a list that was returned is new, so that who changes it changes no other one.
func TestAllIsNew(t *testing.T) {
	l := reason.All(api.Auth)
	l[0], l[1] = 7, 8
	_ = append(l, 9)
	if l := reason.All(api.Auth); !slices.Equal(l, []int{0x00, 0x18, 0x19}) || !reason.Allowed(api.Auth, 0x18) || reason.Allowed(api.Auth, 8) {
		t.Errorf("All(Auth) = %#x", l)
	}
}

// Re1: bad codes are those from 128 to 255.
func TestBad(t *testing.T) {
	for code := range 256 {
		if reason.Bad(code) != (code >= 128) {
			t.Errorf("Bad(%d) = %v", code, reason.Bad(code))
		}
	}
	for _, code := range outside() {
		if reason.Bad(code) {
			t.Errorf("Bad(%d)", code)
		}
	}
}

// Re1: Close keeps the bad codes of a Disconnect, and no others.
func TestClose(t *testing.T) {
	of := codes()[api.Disconnect]
	for code := range 256 {
		want := 0x80
		if code >= 128 && slices.Contains(of, code) {
			want = code
		}
		if got := reason.Close(code); got != want {
			t.Errorf("Close(%#x) = %#x, want %#x", code, got, want)
		}
	}
}

// Re2: what Close returns may end a connection, whatever the code.
func TestCloseEnds(t *testing.T) {
	l := outside()
	for code := range 256 {
		l = append(l, code)
	}
	for _, code := range l {
		if got := reason.Close(code); !reason.Bad(got) || !reason.Allowed(api.Disconnect, got) {
			t.Errorf("Close(%d) = %#x", code, got)
		}
	}
	for _, code := range outside() {
		if got := reason.Close(code); got != 0x80 {
			t.Errorf("Close(%d) = %#x", code, got)
		}
	}
}
