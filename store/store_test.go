package store_test

import (
	"fmt"
	"math"
	"math/rand"
	"slices"
	"strings"
	"testing"

	"towncrier/api"
	"towncrier/store"
)

// The faults of what may not be recorded, and of a record that tells such a thing.
const (
	refused = "no such thing, reason 128, at 0"
	wrong   = "malformed, reason 129, at 0"
)

// same tells whether two values are the same; nil and the empty list are.
func same[T any](a, b T) bool {
	return fmt.Sprintf("%+v", a) == fmt.Sprintf("%+v", b)
}

// told is what an error says, nothing for nil.
func told(e error) string {
	if e == nil {
		return ""
	}
	return e.Error()
}

// add is that a message is in a queue.
func add(group string, seq int) api.Op {
	m := api.Msg{Topic: "t", Payload: "pp", Qos: 2, Retain: true, From: "me", Until: 3<<32 + 5, Seq: seq, Group: group, Props: []api.Prop{{Id: 3, S: "json"}, {Id: 38, S: "k", V: "v"}}}
	return api.Op{Kind: api.OpAdd, Group: group, Seq: seq, Msg: m}
}

// ended is that it is there no more.
func ended(kind int, group string, seq int) api.Op {
	return api.Op{Kind: kind, Group: group, Seq: seq}
}

// put is a record of what may be recorded.
func put(t *testing.T, o api.Op) string {
	t.Helper()
	s, err := store.Put(o)
	if err != nil {
		t.Fatalf("Put(%+v): %v", o, err)
	}
	return s
}

// refuses fails the test unless something may not be recorded.
func refuses(t *testing.T, o api.Op, want string) {
	t.Helper()
	if s, err := store.Put(o); s != "" || told(err) != want {
		t.Errorf("Put(%.200q) = %.60q, %v; want %s", fmt.Sprint(o), s, err, want)
	}
}

// takes fails the test unless a record tells so, or is refused.
func takes(t *testing.T, s string, want api.Op, fault string) {
	t.Helper()
	if o, err := store.Take(s); !same(o, want) || told(err) != fault {
		t.Errorf("Take(% x) = %+v, %v; want %+v, %s", s, o, err, want, fault)
	}
}

// St1: the bytes of records.
func TestPut(t *testing.T) {
	for want, o := range map[string]api.Op{
		"\x01\x00\x03g/t\x00\x00\x01\x02\x00\x01t\x00\x02pp\x06\x00\x02me\x00\x00\x00\x03\x00\x00\x00\x05\x0e\x03\x00\x04json\x26\x00\x01k\x00\x01v": add("g/t", 258),
		"\x01\x00\x01g\x00\x00\x00\x01\x00\x00\x00\x00\x00\x00\x00\x00\x00\x00\x00\x00\x00\x00\x00\x00":                                              {Kind: 1, Group: "g", Seq: 1, Msg: api.Msg{Seq: 1, Group: "g"}},
		"\x02\x00\x03g/t\xff\xff\xff\xff":  ended(api.OpDone, "g/t", api.MaxSeq),
		"\x03\x00\x01\xff\x00\x00\x00\x07": ended(api.OpGone, "\xff", 7),
		"\x02\x00\x01g\x00\x00\x00\x07":    {Kind: api.OpDone, Group: "g", Seq: 7, Msg: api.Msg{Topic: "t", Qos: 9, Until: -1, Group: "h", Seq: 8, Props: []api.Prop{{Id: 99}}}},
	} {
		if s, err := store.Put(o); s != want || err != nil {
			t.Errorf("Put(%+v) = % x, %v; want % x", o, s, err, want)
		}
		if o.Kind != api.OpAdd {
			o.Msg = api.Msg{}
		}
		takes(t, want, o, "")
	}
}

// St1: what may be recorded, at its edges and beyond.
func TestPutRefuses(t *testing.T) {
	for _, kind := range []int{-1, 0, 4, 256, 257, math.MinInt, math.MaxInt} {
		refuses(t, ended(kind, "g", 1), refused)
	}
	for _, kind := range []int{api.OpAdd, api.OpDone, api.OpGone} {
		o := add("g", 1)
		o.Kind = kind
		for _, seq := range []int{0, -1, 1 << 32, math.MinInt, math.MaxInt} {
			o.Seq, o.Msg.Seq = seq, seq
			refuses(t, o, refused)
		}
		refuses(t, ended(kind, "", 1), refused)
	}
	for _, change := range []func(m *api.Msg){
		func(m *api.Msg) { m.Qos = -1 }, func(m *api.Msg) { m.Qos = 3 }, func(m *api.Msg) { m.Until = -1 }, func(m *api.Msg) { m.Until = 1<<53 + 1 }, func(m *api.Msg) { m.Until = math.MaxInt },
		func(m *api.Msg) { m.Group = "" }, func(m *api.Msg) { m.Group = "h" }, func(m *api.Msg) { m.Seq = 2 }, func(m *api.Msg) { m.Seq, m.Props = 2, []api.Prop{{Id: 99}} },
	} {
		o := add("g", 1)
		change(&o.Msg)
		refuses(t, o, refused)
	}
	for _, n := range []int{0, 1, 1<<32 - 1, 1 << 32, 1 << 53} {
		for qos := range 3 {
			o := add("g", api.MaxSeq)
			o.Msg.Until, o.Msg.Qos, o.Msg.Retain = n, qos, false
			takes(t, put(t, o), o, "")
		}
	}
}

// St1: the errors of properties come before those of fields.
func TestPutErrors(t *testing.T) {
	long := strings.Repeat("x", 65536)
	o := add("g", 1)
	o.Msg.Payload = long
	refuses(t, o, "too large, reason 129, at 11")
	o.Msg.Props = []api.Prop{{Id: 3}, {Id: 24}}
	refuses(t, o, "malformed, reason 129, at 1")
	o.Msg.Props = slices.Repeat([]api.Prop{{Id: 38}}, 65)
	refuses(t, o, "too large, reason 149, at 64")
	o = add("g", 1)
	o.Msg.Topic = long
	refuses(t, o, "too large, reason 129, at 8")
	o = add("g", 1)
	o.Msg.From = long
	refuses(t, o, "too large, reason 129, at 16")
	refuses(t, ended(api.OpDone, long, 1), "too large, reason 129, at 1")
	o = add(long[1:], 1)
	o.Msg.Payload, o.Msg.Topic, o.Msg.From = long[1:], "\xff", long[1:]
	takes(t, put(t, o), o, "")
}

// St1: records that are cut off, or are followed by more.
func TestTakeCut(t *testing.T) {
	for _, o := range []api.Op{add("g/t", 258), ended(api.OpDone, "g/t", 3), ended(api.OpGone, "g/t", 3)} {
		s := put(t, o)
		takes(t, s, o, "")
		for cut := range s {
			takes(t, s[:cut], api.Op{}, fmt.Sprintf("too few bytes, reason 129, at %d", cut))
		}
		takes(t, s+"\x00", api.Op{}, fmt.Sprintf("malformed, reason 129, at %d", len(s)))
	}
}

// St1: what a record may not tell; the errors of a reader, and of properties, come before that.
func TestTakeRefuses(t *testing.T) {
	s := put(t, add("g", 1))
	flags, until, props := 1+3+4+3+4, 1+3+4+3+4+1+4, 1+3+4+3+4+1+4+8
	with := func(at int, more string) string { return s[:at] + more + s[at+len(more):] }
	for _, kind := range []string{"\x00", "\x04", "\x11", "\xff"} {
		takes(t, kind+"\x00\x01g\x00\x00\x00\x01", api.Op{}, wrong)
		takes(t, kind+s[1:], api.Op{}, "malformed, reason 129, at 8")
		takes(t, kind+"\x00\x01g\x00\x00\x00", api.Op{}, "too few bytes, reason 129, at 7")
	}
	takes(t, "\x02\x00\x00\x00\x00\x00\x01", api.Op{}, wrong)
	takes(t, "\x02\x00\x01g\x00\x00\x00\x00", api.Op{}, wrong)
	takes(t, with(4, "\x00\x00\x00\x00"), api.Op{}, wrong)
	for n := range 256 {
		o, fault := add("g", 1), ""
		o.Msg.Qos, o.Msg.Retain = n&3, n&4 > 0
		if n > 7 || n&3 == 3 {
			o, fault = api.Op{}, wrong
		}
		takes(t, with(flags, string([]byte{byte(n)})), o, fault)
	}
	for n, right := range map[string]bool{
		"\x00\x20\x00\x00\x00\x00\x00\x00": true, "\x00\x1f\xff\xff\xff\xff\xff\xff": true, "\x00\x20\x00\x00\x00\x00\x00\x01": false, "\x00\x20\x00\x01\x00\x00\x00\x00": false,
		"\x7f\xff\xff\xff\xff\xff\xff\xff": false, "\x80\x00\x00\x00\x00\x00\x00\x00": false, "\x80\x00\x00\x00\x00\x00\x00\x05": false, "\xff\xff\xff\xff\xff\xff\xff\xff": false,
	} {
		if o, err := store.Take(with(until, n)); (err == nil) != right || !right && (told(err) != wrong || !same(o, api.Op{})) {
			t.Errorf("until % x: %+v, %v", n, o, err)
		}
	}
	// The second property is none that a Publish may have; the number of the record is wrong, too.
	takes(t, "\x01\x00\x01g\x00\x00\x00\x00"+s[8:props]+"\x04\x01\x01\x18\x00", api.Op{}, fmt.Sprintf("malformed, reason 129, at %d", props+3))
	takes(t, s[:props]+"\x05\x01\x01", api.Op{}, fmt.Sprintf("too few bytes, reason 129, at %d", props+3))
	takes(t, s[:props]+"\x02\x01\x02", api.Op{}, fmt.Sprintf("against the protocol, reason 130, at %d", props+1))
}

// replayed fails the test unless records lead to these messages, each told as its group and number, and to this greatest number.
func replayed(t *testing.T, l []string, last int, want ...string) {
	t.Helper()
	msgs, n := store.Replay(l)
	var got []string
	for _, m := range msgs {
		got = append(got, fmt.Sprint(m.Group, m.Seq))
		if !same(m, add(m.Group, m.Seq).Msg) {
			t.Errorf("Replay returns %+v", m)
		}
	}
	if !slices.Equal(got, want) || n != last {
		t.Errorf("Replay = %v, %d; want %v, %d", got, n, want, last)
	}
}

// St2: what records lead to; the chapter's example is add 1, add 2, done 1.
func TestReplay(t *testing.T) {
	a := func(group string, seq int) string { return put(t, add(group, seq)) }
	done := func(group string, seq int) string { return put(t, ended(api.OpDone, group, seq)) }
	gone := func(group string, seq int) string { return put(t, ended(api.OpGone, group, seq)) }
	replayed(t, nil, 0)
	replayed(t, []string{a("g", 1), a("g", 2), done("g", 1)}, 2, "g2")
	replayed(t, []string{a("g", 2), a("g", 1), a("h", 2), a("g", 2)}, 2, "g2", "g1", "h2")
	replayed(t, []string{a("g", 2), a("h", 2), gone("g", 2), done("h", 3), gone("i", 9)}, 9, "h2")
	replayed(t, []string{a("g", 2), a("g", 3), gone("g", 2), a("g", 2), done("g", 2), done("g", 2), a("g", 2)}, 3, "g3", "g2")
	replayed(t, []string{"", "rubbish", a("g", 5) + "x", a("g", 1), a("g", 7)[1:], done("g", 1) + "x"}, 1, "g1")
	replayed(t, []string{done("g", api.MaxSeq), a("/", 1)}, api.MaxSeq, "/1")
	changed := add("g", 1)
	changed.Msg.Payload = "other"
	replayed(t, []string{a("g", 1), put(t, changed)}, 1, "g1")
}

// St2: the records of messages, and of the greatest number; what may not be recorded is omitted.
func TestRewrite(t *testing.T) {
	a, b := add("g", 1), add("h", 7)
	bad, worse := add("g", 2).Msg, add("g", 3).Msg
	bad.Qos, worse.Props = 3, []api.Prop{{Id: 24}}
	all := []api.Msg{b.Msg, bad, a.Msg, worse, {Seq: 3}, {Group: "g"}}
	for last, head := range map[int]string{
		1: "\x03\x00\x01/\x00\x00\x00\x01", 9: "\x03\x00\x01/\x00\x00\x00\x09", api.MaxSeq: "\x03\x00\x01/\xff\xff\xff\xff", 0: "", -1: "", api.MaxSeq + 1: "", math.MaxInt: "", math.MinInt: "",
	} {
		var want []string
		if head != "" {
			want = append(want, head)
		}
		if l := store.Rewrite(nil, last); !slices.Equal(l, want) {
			t.Errorf("Rewrite of nothing, %d = %q, want %q", last, l, want)
		}
		want = append(want, put(t, b), put(t, a))
		l := store.Rewrite(all, last)
		if !slices.Equal(l, want) {
			t.Errorf("Rewrite(%d) = %q, want %q", last, l, want)
		}
		replayed(t, l, max(7, len(head)/8*last), "h7", "g1")
	}
}

// St3: what is recorded is read back, and what is rewritten leads to the same; of any prefix, what was added is present, unless it was done or gone.
func TestPrefixes(t *testing.T) {
	rnd := rand.New(rand.NewSource(34))
	for range 200 {
		var records, want []string
		last := 0
		for range 30 {
			group, seq := []string{"g", "h"}[rnd.Intn(2)], 1+rnd.Intn(8)
			name := fmt.Sprint(group, seq)
			o := ended(api.OpDone+rnd.Intn(2), group, seq)
			if rnd.Intn(2) > 0 {
				if o = add(group, seq); !slices.Contains(want, name) {
					want = append(want, name)
				}
			} else {
				want = slices.DeleteFunc(slices.Clone(want), func(s string) bool { return s == name })
			}
			s := put(t, o)
			takes(t, s, o, "")
			records, last = append(records, s), max(last, seq)
			replayed(t, records, last, want...)
			l, n := store.Replay(records)
			replayed(t, store.Rewrite(l, n), last, want...)
		}
	}
}

// R3: lists are neither kept nor changed.
func TestListsAreNew(t *testing.T) {
	o := add("g", 1)
	s := put(t, o)
	o.Msg.Props[0].S = "x"
	x, _ := store.Take(s)
	y, _ := store.Take(s)
	x.Msg.Props[0].S = "y"
	if o.Msg.Props[0].S != "x" || y.Msg.Props[0].S != "json" {
		t.Error("properties are shared")
	}
}
