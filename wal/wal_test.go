package wal_test

import (
	"math/rand"
	"slices"
	"strings"
	"testing"

	"towncrier/crc"
	"towncrier/disk"
	"towncrier/wal"
)

// full is what the fault of a record for which there is no room says.
const full = "no room, reason 151, at 0"

// told is what an error says, nothing for nil.
func told(e error) string {
	if e == nil {
		return ""
	}
	return e.Error()
}

// number is a number in four bytes.
func number(n int) string {
	return string([]byte{byte(n >> 24), byte(n >> 16), byte(n >> 8), byte(n)})
}

// frame is the frame of a record.
func frame(record string) string {
	size := number(len(record))
	return size + number(crc.Sum(size+record)) + record
}

// all are the frames of records.
func all(records ...string) string {
	s := ""
	for _, r := range records {
		s += frame(r)
	}
	return s
}

// scanned fails the test unless bytes have these records, whose frames have so many bytes.
func scanned(t *testing.T, s string, size int, want ...string) {
	t.Helper()
	if l, n := wal.Scan(s); !slices.Equal(l, want) || n != size {
		t.Errorf("Scan(% .60x) = %.60q, %d; want %.60q, %d", s, l, n, want, size)
	}
}

// is fails the test unless the log has these records, the first of which are sure, and whether bytes of its disk are not.
func is(t *testing.T, l *wal.Log, sure int, waits bool, want ...string) {
	t.Helper()
	if got := l.Records(); !slices.Equal(got, want) {
		t.Errorf("Records() = %.60q, want %.60q", got, want)
	}
	if n := l.Sure(); n != sure {
		t.Errorf("Sure() = %d, want %d", n, sure)
	}
	if w := l.Waits(); w != waits {
		t.Errorf("Waits() = %v", w)
	}
}

// appended fails the test unless a record is appended, or refused with an error.
func appended(t *testing.T, l *wal.Log, record, want string) {
	t.Helper()
	if err := l.Append(record); told(err) != want {
		t.Errorf("Append(%.60q) = %q, want %q", record, told(err), want)
	}
}

// rewritten fails the test unless records are rewritten, or refused with an error.
func rewritten(t *testing.T, l *wal.Log, want string, records ...string) {
	t.Helper()
	if err := l.Rewrite(records); told(err) != want {
		t.Errorf("Rewrite(%.60q) = %q, want %q", records, told(err), want)
	}
}

// on is a log on a disk with so much room, and the disk.
func on(room int) (*wal.Log, *disk.Disk) {
	d := disk.New(room)
	return wal.Open(d), d
}

// Wl1: the frame of a record; the chapter's example is the empty one.
func TestPut(t *testing.T) {
	if s := wal.Put(""); len(s) != 8 || s != "\x00\x00\x00\x00\x48\x67\x4b\xc7" {
		t.Errorf("Put of nothing = % x", s)
	}
	for _, record := range []string{"", "a", "\x00", "123456789", strings.Repeat("\xff", 300), strings.Repeat("x", 65536), strings.Repeat("x", 70000)} {
		if s := wal.Put(record); s != frame(record) {
			t.Errorf("Put(%.60q) = % .60x, want % .60x", record, s, frame(record))
		}
	}
}

// Wl1: frames one after the other, up to the first one that is not complete.
func TestScan(t *testing.T) {
	scanned(t, "", 0)
	scanned(t, frame(""), 8, "")
	scanned(t, all("", "", ""), 24, "", "", "")
	scanned(t, all("a", "", "bc"), 27, "a", "", "bc")
	for _, end := range []string{"\x00", "\x00\x00\x00\x00\x00\x00\x00", "\x00\x00\x00\x00\x00\x00\x00\x00", "\xff\xff\xff\xff\xff\xff\xff\xff\xff", number(1) + "abcd", frame("xy")[:9], "text, not a frame"} {
		scanned(t, end, 0)
		scanned(t, all("a", "bc")+end, 19, "a", "bc")
		scanned(t, all("a", "bc")+end+all("d"), 19, "a", "bc")
	}
}

// Wl1: a record has at most 65536 bytes.
func TestScanLongest(t *testing.T) {
	most, more := strings.Repeat("x", 65536), strings.Repeat("x", 65537)
	scanned(t, all("a", most, "b"), 9+65544+9, "a", most, "b")
	scanned(t, all("a", more, "b"), 9, "a")
	scanned(t, frame(more), 0)
}

// Wl1: frames cut off anywhere.
func TestScanCut(t *testing.T) {
	s := all("ab", "", "cde")
	for cut := range len(s) + 1 {
		switch {
		case cut < 10:
			scanned(t, s[:cut], 0)
		case cut < 18:
			scanned(t, s[:cut], 10, "ab")
		case cut < 29:
			scanned(t, s[:cut], 18, "ab", "")
		default:
			scanned(t, s, 29, "ab", "", "cde")
		}
	}
}

// Wl2: the log of an empty disk, and what is appended to it.
func TestAppend(t *testing.T) {
	l, d := on(40)
	is(t, l, 0, false)
	appended(t, l, "ab", "")
	is(t, l, 0, true, "ab")
	appended(t, l, "", "")
	is(t, l, 0, true, "ab", "")
	if d.Bytes() != all("ab", "") || d.Sure() != 0 {
		t.Errorf("% x, %d sure", d.Bytes(), d.Sure())
	}
	l.Sync()
	is(t, l, 2, false, "ab", "")
	appended(t, l, "c", "")
	is(t, l, 2, true, "ab", "", "c")
	if d.Sure() != 18 || d.Room() != 13 {
		t.Errorf("%d sure, room for %d", d.Sure(), d.Room())
	}
}

// Wl2: no room for a frame, or more bytes than a record may have: nothing is appended.
func TestAppendRefuses(t *testing.T) {
	l, d := on(20)
	appended(t, l, strings.Repeat("x", 13), full)
	appended(t, l, "abc", "")
	appended(t, l, "xy", full)
	is(t, l, 0, true, "abc")
	appended(t, l, "d", "")
	appended(t, l, "", full)
	is(t, l, 0, true, "abc", "d")
	if d.Bytes() != all("abc", "d") {
		t.Errorf("% x", d.Bytes())
	}
	l, _ = on(1 << 20)
	appended(t, l, strings.Repeat("x", 65536), "")
	appended(t, l, strings.Repeat("x", 65537), full)
	is(t, l, 0, true, strings.Repeat("x", 65536))
	l, _ = on(7)
	appended(t, l, "", full)
	is(t, l, 0, false)
}

// Wl2: what a disk has when its log is opened; what follows the frames is cut off, and then all are sure.
func TestOpen(t *testing.T) {
	d := disk.New(100)
	d.Append(all("a"))
	d.Sync()
	d.Append(all("b", "c"))
	l := wal.Open(d)
	is(t, l, 1, true, "a", "b", "c")
	if d.Bytes() != all("a", "b", "c") || d.Sure() != 9 {
		t.Errorf("% x, %d sure", d.Bytes(), d.Sure())
	}
	d.Append("rest")
	l = wal.Open(d)
	is(t, l, 3, false, "a", "b", "c")
	if d.Bytes() != all("a", "b", "c") || d.Sure() != 27 || d.Room() != 73 {
		t.Errorf("% x, %d sure, room for %d", d.Bytes(), d.Sure(), d.Room())
	}
	appended(t, l, "d", "")
	is(t, l, 3, true, "a", "b", "c", "d")
	d = disk.New(8)
	d.Append("no frame")
	is(t, wal.Open(d), 0, false)
	if d.Bytes() != "" || d.Sure() != 0 {
		t.Errorf("% x, %d sure", d.Bytes(), d.Sure())
	}
}

// Wl2: records are sure when all their bytes are.
func TestSure(t *testing.T) {
	s := all("ab", "", "cde")
	for sure := range len(s) + 1 {
		d := disk.New(100)
		d.Append(s[:sure])
		d.Sync()
		d.Append(s[sure:])
		want := 0
		for _, end := range []int{10, 18, 29} {
			if sure >= end {
				want++
			}
		}
		is(t, wal.Open(d), want, sure < len(s), "ab", "", "cde")
	}
}

// Wl2: other records, all sure, take the place of all, if there is room for all of them.
func TestRewrite(t *testing.T) {
	l, d := on(30)
	appended(t, l, "abcd", "")
	rewritten(t, l, full, "123456", "123456", "1")
	rewritten(t, l, full, strings.Repeat("x", 65537))
	is(t, l, 0, true, "abcd")
	rewritten(t, l, "", "123456", "12345678")
	is(t, l, 2, false, "123456", "12345678")
	appended(t, l, "", full)
	rewritten(t, l, full, "123456", "123456789")
	is(t, l, 2, false, "123456", "12345678")
	rewritten(t, l, "", "x", "", "x")
	if d.Bytes() != all("x", "", "x") || d.Sure() != 26 {
		t.Errorf("% x, %d sure", d.Bytes(), d.Sure())
	}
	is(t, l, 3, false, "x", "", "x")
	rewritten(t, l, "")
	is(t, l, 0, false)
	if d.Room() != 30 {
		t.Errorf("room for %d", d.Room())
	}
	l, _ = on(1 << 20)
	most := strings.Repeat("x", 65536)
	rewritten(t, l, full, "a", most+"x", "b")
	rewritten(t, l, "", "a", most, "b")
	is(t, l, 3, false, "a", most, "b")
}

// Wl2: no log, and a log of no disk.
func TestNoDisk(t *testing.T) {
	for _, l := range []*wal.Log{nil, {}, wal.Open(nil)} {
		appended(t, l, "", full)
		appended(t, l, "a", full)
		rewritten(t, l, full)
		rewritten(t, l, full, "a")
		l.Sync()
		is(t, l, 0, false)
	}
	l := wal.Open(&disk.Disk{})
	appended(t, l, "", full)
	rewritten(t, l, "")
	is(t, l, 0, false)
}

// R3: lists are neither kept nor handed out.
func TestListsAreNew(t *testing.T) {
	l, _ := on(100)
	records := []string{"a", "b"}
	rewritten(t, l, "", records...)
	records[0] = "x"
	l.Records()[1] = "y"
	is(t, l, 2, false, "a", "b")
}

// Wl3: after a crash the records are those that were sure, and the first ones of the others.
func TestCrash(t *testing.T) {
	rnd := rand.New(rand.NewSource(22))
	for range 2000 {
		l, d := on(200)
		var records []string
		sure := 0
		for range rnd.Intn(12) {
			record := strings.Repeat(string(rune('a'+rnd.Intn(26))), rnd.Intn(20))
			if l.Append(record) == nil {
				records = append(records, record)
			}
			if rnd.Intn(4) == 0 {
				l.Sync()
				sure = len(records)
			}
			is(t, l, sure, sure < len(records), records...)
		}
		left := len(all(records[sure:]...))
		keep := rnd.Intn(left+5) - 2
		many := sure
		for many < len(records) && len(all(records[sure:many+1]...)) <= keep {
			many++
		}
		d.Crash(keep)
		is(t, wal.Open(d), many, false, records[:many]...)
		if d.Bytes() != all(records[:many]...) {
			t.Errorf("% x", d.Bytes())
		}
		if t.Failed() {
			return
		}
	}
}

// Wl3: a frame in whose record up to 32 consecutive bits are changed is not complete, nor is any after it.
func TestChangedBits(t *testing.T) {
	rnd := rand.New(rand.NewSource(23))
	for range 5000 {
		record := strings.Repeat("r", 4+rnd.Intn(30))
		b := []byte(record)
		first := rnd.Intn(8*len(b) - 31)
		burst := uint64(rnd.Uint32()|1) << (first % 8)
		for i := range 5 {
			if at := first/8 + i; at < len(b) {
				b[at] ^= byte(burst >> (8 * i))
			}
		}
		head := frame(record)[:8]
		scanned(t, all("a", "b")+head+string(b)+all("c"), 18, "a", "b")
		if t.Failed() {
			return
		}
	}
	// A single bit of the head does the same.
	s := all("a", "bc", "d")
	for bit := range 64 {
		b := []byte(s)
		b[9+bit/8] ^= 1 << (bit % 8)
		scanned(t, string(b), 9, "a")
	}
}
