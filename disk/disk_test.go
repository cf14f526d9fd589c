package disk_test

import (
	"math"
	"math/rand"
	"strings"
	"testing"

	"towncrier/disk"
)

// is fails the test unless the disk has these bytes, of which so many are sure, and so much room.
func is(t *testing.T, d *disk.Disk, bytes string, sure, room int) {
	t.Helper()
	if d.Bytes() != bytes || d.Sure() != sure || d.Room() != room {
		t.Errorf("%.60q, %d sure, room for %d; want %.60q, %d, %d", d.Bytes(), d.Sure(), d.Room(), bytes, sure, room)
	}
}

// appended fails the test unless bytes are appended, or refused, as it is told.
func appended(t *testing.T, d *disk.Disk, s string, want bool) {
	t.Helper()
	if ok := d.Append(s); ok != want {
		t.Errorf("Append(%.60q) = %v", s, ok)
	}
}

// swapped fails the test unless bytes are swapped, or refused, as it is told.
func swapped(t *testing.T, d *disk.Disk, s string, want bool) {
	t.Helper()
	if ok := d.Swap(s); ok != want {
		t.Errorf("Swap(%.60q) = %v", s, ok)
	}
}

// Dk1: bytes are appended as long as there is room; the chapter's example has room for 3.
func TestAppend(t *testing.T) {
	d := disk.New(3)
	is(t, d, "", 0, 3)
	appended(t, d, "ab", true)
	is(t, d, "ab", 0, 1)
	appended(t, d, "cd", false)
	is(t, d, "ab", 0, 1)
	appended(t, d, "", true)
	appended(t, d, "\x00", true)
	is(t, d, "ab\x00", 0, 0)
	appended(t, d, "", true)
	appended(t, d, "e", false)
	is(t, d, "ab\x00", 0, 0)
	d = disk.New(3)
	appended(t, d, "abcd", false)
	appended(t, d, "abc", true)
	is(t, d, "abc", 0, 0)
	d = disk.New(math.MaxInt)
	appended(t, d, strings.Repeat("x", 100000), true)
	is(t, d, strings.Repeat("x", 100000), 0, math.MaxInt-100000)
}

// Dk1: Sync makes all bytes sure; those that are appended then are not.
func TestSync(t *testing.T) {
	d := disk.New(9)
	d.Sync()
	is(t, d, "", 0, 9)
	d.Append("ab")
	d.Sync()
	is(t, d, "ab", 2, 7)
	d.Append("cd")
	is(t, d, "abcd", 2, 5)
	d.Sync()
	d.Sync()
	is(t, d, "abcd", 4, 5)
}

// Dk1: a crash keeps the sure bytes, and the first ones of the others, all of which are sure then.
func TestCrash(t *testing.T) {
	for keep, want := range map[int]string{math.MinInt: "ab", -1: "ab", 0: "ab", 1: "abc", 2: "abcd", 3: "abcde", 4: "abcde", math.MaxInt: "abcde"} {
		d := disk.New(6)
		d.Append("ab")
		d.Sync()
		d.Append("cd")
		d.Append("e")
		d.Crash(keep)
		is(t, d, want, len(want), 6-len(want))
		d.Crash(-5)
		is(t, d, want, len(want), 6-len(want))
		d.Append("x")
		is(t, d, want+"x", len(want), 5-len(want))
		d.Crash(0)
		is(t, d, want, len(want), 6-len(want))
	}
	d := disk.New(2)
	d.Crash(1)
	is(t, d, "", 0, 2)
}

// Dk1: other bytes, all sure, take the place of all, if there is room for them alone.
func TestSwap(t *testing.T) {
	d := disk.New(4)
	swapped(t, d, "abcde", false)
	is(t, d, "", 0, 4)
	swapped(t, d, "abcd", true)
	is(t, d, "abcd", 4, 0)
	swapped(t, d, "xyz", true)
	is(t, d, "xyz", 3, 1)
	appended(t, d, "w", true)
	swapped(t, d, "12345", false)
	is(t, d, "xyzw", 3, 0)
	swapped(t, d, "1234", true)
	is(t, d, "1234", 4, 0)
	swapped(t, d, "", true)
	is(t, d, "", 0, 4)
}

// Dk1: disks without room, a zero one, and none at all.
func TestNoRoom(t *testing.T) {
	for _, d := range []*disk.Disk{disk.New(0), disk.New(-1), disk.New(math.MinInt), {}} {
		appended(t, d, "", true)
		appended(t, d, "a", false)
		swapped(t, d, "", true)
		swapped(t, d, "a", false)
		d.Sync()
		d.Crash(1)
		is(t, d, "", 0, 0)
	}
	var none *disk.Disk
	appended(t, none, "", false)
	appended(t, none, "a", false)
	swapped(t, none, "", false)
	swapped(t, none, "a", false)
	none.Sync()
	none.Crash(1)
	is(t, none, "", 0, 0)
}

// Dk1: the bytes that were returned stay as they were.
func TestBytesStay(t *testing.T) {
	d := disk.New(9)
	d.Append("abc")
	first := d.Bytes()
	d.Crash(1)
	d.Append("xy")
	second := d.Bytes()
	d.Swap("123")
	if first != "abc" || second != "axy" || d.Bytes() != "123" {
		t.Errorf("%q, %q, %q", first, second, d.Bytes())
	}
}

// Dk2: what is sure is never lost, except by Swap; after a crash the bytes are a prefix; there are never more than room.
func TestNothingSureIsLost(t *testing.T) {
	rnd := rand.New(rand.NewSource(21))
	for range 500 {
		room := rnd.Intn(30)
		d := disk.New(room)
		all, sure := "", 0
		for range 60 {
			s := "abcdefghij"[:rnd.Intn(11)]
			switch rnd.Intn(8) {
			case 0:
				d.Sync()
				sure = len(all)
			case 1:
				keep := rnd.Intn(12) - 2
				d.Crash(keep)
				all = all[:min(sure+max(keep, 0), len(all))]
				sure = len(all)
			case 2:
				swapped(t, d, s, len(s) <= room)
				if len(s) <= room {
					all, sure = s, len(s)
				}
			default:
				ok := len(all)+len(s) <= room
				appended(t, d, s, ok)
				if ok {
					all += s
				}
			}
			is(t, d, all, sure, room-len(all))
			if t.Failed() {
				return
			}
		}
	}
}
