package crc_test

import (
	"hash/crc32"
	"math"
	"math/rand"
	"strings"
	"testing"

	"towncrier/crc"
)

// Cr1: checksums that are known; the chapter's example is 123456789.
func TestSum(t *testing.T) {
	for s, want := range map[string]int{
		"": 0, "123456789": 0xe3069283, "a": 0xc1d04330, "abc": 0x364b3fb7,
		strings.Repeat("\x00", 32): 0x8a9136aa, strings.Repeat("\xff", 32): 0x62a8ab43,
	} {
		if sum := crc.Sum(s); sum != want {
			t.Errorf("Sum(% x) = %#x, want %#x", s, sum, want)
		}
	}
}

// random are some bytes.
func random(rnd *rand.Rand, most int) string {
	b := make([]byte, rnd.Intn(most))
	rnd.Read(b)
	return string(b)
}

// Cr1: all bytes, and some strings, against the library; More continues what precedes.
func TestAgainstLibrary(t *testing.T) {
	table := crc32.MakeTable(crc32.Castagnoli)
	rnd := rand.New(rand.NewSource(20))
	l := []string{strings.Repeat("x", 70000)}
	for b := range 256 {
		l = append(l, string([]byte{byte(b)}), random(rnd, 300))
	}
	for _, s := range l {
		want := int(crc32.Checksum([]byte(s), table))
		if sum := crc.Sum(s); sum != want {
			t.Fatalf("Sum(% .60x) = %#x, want %#x", s, sum, want)
		}
		cut := rnd.Intn(len(s) + 1)
		for _, sum := range []int{crc.More(0, s), crc.More(crc.Sum(s), ""), crc.More(crc.Sum(s[:cut]), s[cut:])} {
			if sum != want {
				t.Fatalf("More of % .60x, cut at %d, = %#x, want %#x", s, cut, sum, want)
			}
		}
	}
}

// Cr1: only the lowest 32 bits of a sum count.
func TestMoreOfAnyNumber(t *testing.T) {
	for _, sum := range []int{0, 1, 0xe3069283, 1<<32 - 1} {
		want := crc.More(sum, "more")
		if want < 0 || want >= 1<<32 || crc.More(sum, "") != sum {
			t.Errorf("More(%#x) = %#x, %#x", sum, want, crc.More(sum, ""))
		}
		for _, high := range []int{1 << 32, 5 << 40, math.MinInt, -1 << 32} {
			if got := crc.More(sum+high, "more"); got != want || crc.More(sum+high, "") != sum {
				t.Errorf("More(%#x) = %#x, want %#x", sum+high, got, want)
			}
		}
	}
	if crc.More(-1, "") != 1<<32-1 || crc.More(math.MaxInt, "a") != crc.More(1<<32-1, "a") {
		t.Error("the lowest bits of -1, or of the greatest number")
	}
}

// Cr2: with up to 32 consecutive bits changed, the checksum is different.
func TestChangedBits(t *testing.T) {
	rnd := rand.New(rand.NewSource(21))
	for range 20000 {
		b := []byte(random(rnd, 40) + "12345")
		before := crc.Sum(string(b))
		first := rnd.Intn(8*len(b) - 31)
		// The bits of a byte follow each other from the lowest on, as the checksum takes them.
		burst := uint64(rnd.Uint32()|1) << (first % 8)
		for i := range 5 {
			if at := first/8 + i; at < len(b) {
				b[at] ^= byte(burst >> (8 * i))
			}
		}
		if after := crc.Sum(string(b)); after == before {
			t.Fatalf("% x: %#x, before and after", b, after)
		}
	}
}
