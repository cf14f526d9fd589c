package topic_test

import (
	"regexp"
	"slices"
	"strings"
	"testing"

	"towncrier/topic"
)

// takes fails the test unless the filter takes the name, or takes it not.
func takes(t *testing.T, filter, name string, want bool) {
	t.Helper()
	if got := topic.Match(filter, name); got != want {
		t.Errorf("Match(%.60q, %.60q) = %v", filter, name, got)
	}
}

// many is a text with so many levels, all of them the same.
func many(n int, level string) string {
	return strings.TrimSuffix(strings.Repeat(level+"/", n), "/")
}

// To1: the levels of any text.
func TestLevels(t *testing.T) {
	for s, want := range map[string][]string{
		"": {""}, "a": {"a"}, "/": {"", ""}, "//": {"", "", ""}, "a/b": {"a", "b"}, "/a": {"", "a"}, "a/": {"a", ""}, "a//b": {"a", "", "b"},
		"+/#": {"+", "#"}, "\x00/\xff": {"\x00", "\xff"}, "\u00f6/\u20ac/x": {"\u00f6", "\u20ac", "x"}, "$share/g/a": {"$share", "g", "a"},
	} {
		if l := topic.Levels(s); !slices.Equal(l, want) {
			t.Errorf("Levels(%q) = %q, want %q", s, l, want)
		}
	}
	if l := topic.Levels(strings.Repeat("/", 100000)); len(l) != 100001 || strings.Join(l, "") != "" {
		t.Errorf("%d levels", len(l))
	}
}

// To1: the levels are new memory.
func TestLevelsAreNew(t *testing.T) {
	topic.Levels("a/b")[0] = "x"
	if l := topic.Levels("a/b"); !slices.Equal(l, []string{"a", "b"}) {
		t.Errorf("Levels = %q", l)
	}
}

// valid fails the test unless a text is a valid name, and a valid filter, as it is told.
func valid(t *testing.T, s string, name, filter bool) {
	t.Helper()
	if is := topic.IsName(s); is != name {
		t.Errorf("IsName(%.60q) = %v", s, is)
	}
	if is := topic.IsFilter(s); is != filter {
		t.Errorf("IsFilter(%.60q) = %v", s, is)
	}
	// What is not valid neither takes anything nor is taken.
	takes(t, "#", s, name && s[0] != '$')
	if !filter {
		for _, other := range []string{s, "a", "a/b", strings.Trim(s, "+#")} {
			takes(t, s, other, false)
		}
	}
}

// To1: texts without signs are names, and filters.
func TestValidNames(t *testing.T) {
	for _, s := range []string{"a", "/", "//", "a/b", "/a", "a/", " ", "$", "$share/a", "$SYS/x", "\u00f6/\u20ac", "\x01", "\U0010ffff", "\ufeff"} {
		valid(t, s, true, true)
	}
	valid(t, "", false, false)
	for _, s := range []string{"\x00", "a/\x00", "\xff", "a/\xc0\x80", "\xed\xa0\x80/a", "a/\xe2\x82"} {
		valid(t, s, false, false)
		valid(t, s+"/#", false, false)
		valid(t, "+/"+s, false, false)
	}
}

// To1: signs in filters.
func TestValidFilters(t *testing.T) {
	for _, s := range []string{"+", "#", "+/#", "+/+", "/+", "+/", "a/+", "a/#", "/#", "a/+/b", "+/a/#", "$share/g/#", "$/+", "+/+/+/#"} {
		valid(t, s, false, true)
	}
	for _, s := range []string{"a+", "+a", "++", "a#", "#a", "##", "#/", "#/a", "#/#", "a/#/b", "#/+", "a/b#", "a/#b", "a/+b", "a/b+/c", "a/+#", "a/#+", "+#", "#+", "a/++/b", "/#/", "\u00f6+"} {
		valid(t, s, false, false)
	}
}

// To1: 32 levels at most, and 65535 bytes.
func TestLimits(t *testing.T) {
	for _, level := range []string{"", "a", "\u00f6"} {
		valid(t, many(32, level)+"/", false, false)
		valid(t, many(31, level)+"/a", true, true)
		valid(t, many(31, level)+"/#", false, true)
		valid(t, many(31, level)+"/+", false, true)
		valid(t, many(32, level)+"/#", false, false)
		valid(t, many(32, level)+"/+", false, false)
		valid(t, many(33, level), false, false)
	}
	valid(t, many(32, "a"), true, true)
	valid(t, many(32, "+"), false, true)
	valid(t, many(33, "+"), false, false)
	valid(t, strings.Repeat("/", 31), true, true)
	valid(t, strings.Repeat("/", 32), false, false)
	valid(t, strings.Repeat("a", 65535), true, true)
	valid(t, strings.Repeat("a", 65536), false, false)
	valid(t, strings.Repeat("a", 65533)+"/#", false, true)
	valid(t, strings.Repeat("a", 65534)+"/#", false, false)
	takes(t, many(32, "+"), many(32, "a"), true)
	takes(t, many(31, "a")+"/#", many(32, "a"), true)
	takes(t, many(31, "a")+"/#", many(31, "a"), true)
	takes(t, many(32, "a")+"/#", many(32, "a"), false)
	takes(t, "#", many(32, "a"), true)
	takes(t, "#", many(33, "a"), false)
}

// To1: which names a filter takes; the chapter's example is a/#.
func TestMatch(t *testing.T) {
	for filter, x := range map[string]struct{ yes, no []string }{
		"a/#":        {[]string{"a", "a/b", "a/b/c", "a/", "a//", "a/$b"}, []string{"b", "ab", "/a", "b/a", "aa/b", "A", "$a", ""}},
		"#":          {[]string{"a", "/", "a/b", " ", "a/$", "/$"}, []string{"$", "$a", "$a/b", "", "a/#", "+"}},
		"+":          {[]string{"a", "abc", "\u20ac"}, []string{"/", "a/", "/a", "a/b", "$", "$a", "", "+", "#"}},
		"+/+":        {[]string{"/", "a/", "/a", "a/b", "a/$b"}, []string{"a", "//", "a/b/c", "$a/b", "$/"}},
		"+/#":        {[]string{"a", "/", "a/b", "a/b/c", "a/$"}, []string{"$a", "$a/b"}},
		"/+":         {[]string{"/a", "/", "/$a"}, []string{"a", "//", "/a/b", "a/b"}},
		"/#":         {[]string{"/", "/a", "//", "/a/b"}, []string{"a", "a/", "$/"}},
		"a":          {[]string{"a"}, []string{"A", "b", "a/", "/a", "aa", "a/a", ""}},
		"a/+/c":      {[]string{"a/b/c", "a//c", "a/$/c"}, []string{"a/c", "a/b/d", "a/b/c/d", "b/b/c", "a/b"}},
		"a/+/#":      {[]string{"a/b", "a/", "a/b/c", "a//"}, []string{"a", "b/b"}},
		"$a/#":       {[]string{"$a", "$a/b"}, []string{"a", "$b", "$", "$aa"}},
		"$a/+":       {[]string{"$a/b", "$a/"}, []string{"$a", "$a/b/c", "a/b"}},
		"$":          {[]string{"$"}, []string{"$a", "a", "$/"}},
		"$share/g/#": {[]string{"$share/g", "$share/g/a"}, []string{"g", "a", "g/a"}},
		"\u00f6/+":   {[]string{"\u00f6/\u20ac"}, []string{"o/\u20ac", "\u00f6", "\u00f6/\xff", "\u00f6/\x00"}},
	} {
		for _, name := range x.yes {
			takes(t, filter, name, true)
		}
		for _, name := range x.no {
			takes(t, filter, name, false)
		}
	}
}

// texts are all of so many characters at most.
func texts(characters []string, most int) []string {
	l := []string{""}
	for from := 0; most > 0; most-- {
		to := len(l)
		for _, s := range l[from:to] {
			for _, c := range characters {
				l = append(l, s+c)
			}
		}
		from = to
	}
	return l
}

// To1: all short filters and names, against expressions that tell the same.
func TestAgainstExpressions(t *testing.T) {
	isName := regexp.MustCompile(`^[^+#]+$`)
	isFilter := regexp.MustCompile(`^(([^+#/]*|\+)/)*([^+#/]*|\+|#)$`)
	l := texts([]string{"a", "$", "/", "+", "#"}, 5)
	for _, filter := range l {
		if is := topic.IsName(filter); is != isName.MatchString(filter) {
			t.Fatalf("IsName(%q) = %v", filter, is)
		}
		if is := topic.IsFilter(filter); is != (filter != "" && isFilter.MatchString(filter)) {
			t.Fatalf("IsFilter(%q) = %v", filter, is)
		}
	}
	for _, filter := range texts([]string{"a", "$", "/", "+", "#"}, 4) {
		if !topic.IsFilter(filter) {
			continue
		}
		s := strings.ReplaceAll(strings.ReplaceAll(filter, "$", `\$`), "+", "[^/]*")
		e := regexp.MustCompile("^" + strings.Replace("/"+s, "/#", "(/.*)?", 1) + "$")
		for _, name := range l {
			want := isName.MatchString(name) && e.MatchString("/"+name) && !(name[0] == '$' && strings.Contains("+#", filter[:1]))
			takes(t, filter, name, want)
		}
		if t.Failed() {
			return
		}
	}
}

// To2: a name that is also a filter takes only itself, and is taken with + for a level, and with # behind any.
func TestNamesAsFilters(t *testing.T) {
	l := texts([]string{"a", "b", "/"}, 4)
	for _, name := range l[1:] {
		for _, other := range l {
			takes(t, name, other, name == other)
		}
		levels := topic.Levels(name)
		for i := range levels {
			with := slices.Clone(levels)
			with[i] = "+"
			takes(t, strings.Join(with, "/"), name, true)
			takes(t, strings.Join(append(with[:i:i], "#"), "/"), name, true)
			takes(t, strings.Join(append(slices.Clone(levels[:i+1]), "#"), "/"), name, true)
		}
	}
}
