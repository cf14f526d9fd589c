package share_test

import (
	"strings"
	"testing"

	"towncrier/api"
	"towncrier/share"
	"towncrier/topic"
)

// shared fails the test unless a text is the shared filter of a group.
func shared(t *testing.T, s, group, filter string) {
	t.Helper()
	want := api.Share{Shared: true, Group: group, Filter: filter}
	if x, ok := share.Parse(s); x != want || !ok {
		t.Errorf("Parse(%.60q) = %.60v, %v; want %.60v", s, x, ok, want)
	}
	if u := share.Text(want); u != s {
		t.Errorf("Text(%.60v) = %.60q, want %.60q", want, u, s)
	}
	if key := share.Key(want); key != group+"/"+filter {
		t.Errorf("Key(%.60v) = %.60q", want, key)
	}
}

// plain fails the test unless a text is another filter.
func plain(t *testing.T, s string) {
	t.Helper()
	want := api.Share{Filter: s}
	if x, ok := share.Parse(s); x != want || !ok {
		t.Errorf("Parse(%.60q) = %.60v, %v; want %.60v", s, x, ok, want)
	}
	if u := share.Text(want); u != s {
		t.Errorf("Text(%.60v) = %.60q", want, u)
	}
}

// refused fails the test unless a text may not be.
func refused(t *testing.T, s string) {
	t.Helper()
	if x, ok := share.Parse(s); x != (api.Share{}) || ok {
		t.Errorf("Parse(%.60q) = %.60v, %v", s, x, ok)
	}
}

// Sh1: shared filters; the chapter's example is $share/h-orders/o/#.
func TestShared(t *testing.T) {
	shared(t, "$share/h-orders/o/#", "h-orders", "o/#")
	shared(t, "$share/g/a", "g", "a")
	shared(t, "$share/g/#", "g", "#")
	shared(t, "$share/g/+", "g", "+")
	shared(t, "$share/g//", "g", "/")
	shared(t, "$share/g//a", "g", "/a")
	shared(t, "$share/g/a/", "g", "a/")
	shared(t, "$share/g/+/b/#", "g", "+/b/#")
	shared(t, "$share/$/a", "$", "a")
	shared(t, "$share/ / ", " ", " ")
	shared(t, "$share/\u20ac/\u00f6", "\u20ac", "\u00f6")
	shared(t, "$share/$share/$share/g/a", "$share", "$share/g/a")
	shared(t, "$share/g/$share/", "g", "$share/")
}

// Sh1: filters that are not shared.
func TestPlain(t *testing.T) {
	for _, s := range []string{"a", "#", "+/a", "/", "$share", "$share2/g/a", "$shar/g/a", "$SHARE/g/a", "/$share/g/a", "share/g/a", "+/g/a", " $share/g/a", "a/$share/g/b"} {
		plain(t, s)
	}
}

// Sh1: what is no filter, and what only begins as a shared one.
func TestRefused(t *testing.T) {
	for _, s := range []string{
		"", "a#", "\x00", "\xff", "#/a", "$share+", "$share#",
		"$share/", "$share/g", "$share/g/", "$share//", "$share//a", "$share///a", "$share//#",
		"$share/+", "$share/#", "$share/+/a", "$share/#/a", "$share/+/#", "$share/g+/a", "$share/+g/a", "$share/g#/a", "$share/#g/a",
		"$share/g/a#", "$share/g/#/a", "$share/g/a+", "$share/g/++", "$share/g/\x00", "$share/\x00/a", "$share/\xff/a", "$share/g/\xc0\x80",
	} {
		refused(t, s)
	}
}

// Sh1: the whole has 32 levels at most, and 65535 bytes.
func TestLimits(t *testing.T) {
	shared(t, "$share/g"+strings.Repeat("/a", 30), "g", strings.Repeat("/a", 30)[1:])
	shared(t, "$share/g"+strings.Repeat("/+", 29)+"/#", "g", strings.Repeat("/+", 29)[1:]+"/#")
	shared(t, "$share/g"+strings.Repeat("/", 30), "g", strings.Repeat("/", 29))
	refused(t, "$share/g"+strings.Repeat("/a", 31))
	refused(t, "$share/g"+strings.Repeat("/+", 30)+"/#")
	refused(t, "$share/g"+strings.Repeat("/", 31))
	plain(t, "$share"+strings.Repeat("x/a", 31))
	long := strings.Repeat("x", 65535)
	shared(t, "$share/"+long[:65526]+"/a", long[:65526], "a")
	shared(t, "$share/g/"+long[:65526], "g", long[:65526])
	refused(t, "$share/"+long[:65527]+"/a")
	refused(t, "$share/g/"+long[:65527])
	plain(t, long)
	refused(t, long+"x")
}

// Sh1: Text and Key, whatever the fields are.
func TestAnyFields(t *testing.T) {
	for _, x := range []struct {
		x         api.Share
		text, key string
	}{
		{api.Share{}, "", "/"},
		{api.Share{Shared: true}, "$share//", "/"},
		{api.Share{Group: "g"}, "", "g/"},
		{api.Share{Filter: "a"}, "a", "/a"},
		{api.Share{Group: "g", Filter: "a"}, "a", "g/a"},
		{api.Share{Shared: true, Group: "g"}, "$share/g/", "g/"},
		{api.Share{Shared: true, Filter: "a"}, "$share//a", "/a"},
		{api.Share{Shared: true, Group: "g/+", Filter: "#/\xff"}, "$share/g/+/#/\xff", "g/+/#/\xff"},
		{api.Share{Filter: "$share/g/a"}, "$share/g/a", "/$share/g/a"},
	} {
		if s := share.Text(x.x); s != x.text {
			t.Errorf("Text(%v) = %q, want %q", x.x, s, x.text)
		}
		if s := share.Key(x.x); s != x.key {
			t.Errorf("Key(%v) = %q, want %q", x.x, s, x.key)
		}
	}
}

// Sh1: the strategy of a group.
func TestStrategy(t *testing.T) {
	for group, want := range map[string]int{
		"s-": api.Sticky, "s-x": api.Sticky, "h-": api.Hash, "h-orders": api.Hash, "l-": api.Least, "l-h-": api.Least, "x-": api.Exclusive, "x-\xff": api.Exclusive,
		"": api.Robin, "s": api.Robin, "h": api.Robin, "-": api.Robin, "S-": api.Robin, "H-x": api.Robin, "r-x": api.Robin, "as-": api.Robin, " h-": api.Robin, "sx-": api.Robin, "l": api.Robin, "xl-": api.Robin, "g": api.Robin,
	} {
		if n := share.Strategy(group); n != want {
			t.Errorf("Strategy(%q) = %d, want %d", group, n, want)
		}
	}
}

// Sh2: what is parsed is the text that Text returns, and it is the only one of its key; of all short texts.
func TestParsedAndBack(t *testing.T) {
	keys := map[string]string{}
	l := []string{""}
	for range 6 {
		var longer []string
		for _, s := range l {
			for _, c := range []string{"g", "/", "+", "#"} {
				longer = append(longer, s+c)
			}
		}
		for _, s := range longer {
			plainOne, isPlain := share.Parse(s)
			if isPlain != topic.IsFilter(s) || isPlain && plainOne != (api.Share{Filter: s}) {
				t.Fatalf("Parse(%q) = %v, %v", s, plainOne, isPlain)
			}
			s = "$share/" + s
			x, ok := share.Parse(s)
			group, filter, cut := strings.Cut(s[len("$share/"):], "/")
			if want := cut && group != "" && !strings.ContainsAny(group, "+#") && topic.IsFilter(filter); ok != want {
				t.Fatalf("Parse(%q) = %v, %v", s, x, ok)
			}
			if !ok {
				refused(t, s)
				continue
			}
			shared(t, s, group, filter)
			if other, known := keys[share.Key(x)]; known {
				t.Fatalf("%q has the key of %q", s, other)
			}
			keys[share.Key(x)] = s
		}
		l = longer
	}
}
