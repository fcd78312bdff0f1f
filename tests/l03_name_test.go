package tests

import (
	"slices"
	"strconv"
	"strings"
	"testing"

	"loop.example/g00497/impl"
)

const (
	fiftyBytes    = "twelve-bytes.twelve-bytes.twelve-bytes.elevenbytes"
	fiftyInSix    = "seven-7.eight-88.seven-7.eight-88.eight-88.seven-7"
	fiftyOneBytes = "twelve-bytes.twelve-bytes.twelve-bytes.twelve-bytes"
	fiftyOneInSix = "seven-7.eight-88.seven-7.eight-88.eight-88.eight-88"
)

func someNames() []string {
	return []string{
		"", "com", "ex.com", "www.ex.com", "a.www.ex.com", "xex.com", "ex.xcom", "org", "ex.org", "www.ex.org", "com.com", "com.com.com", "com.org", "org.com",
		"a", "b", "a.a", "a.b", "b.a", "ab", "aa", "a-.b", "a.b.c.d.e", "a.b.c.d.e.f", "f.e.d.c.b.a", "a.a.a.a.a.a", "_tcp._x.-.0", "-.-", "0.1.2.3.4.5",
		fiftyBytes, fiftyInSix, "twelve-bytes.com",
	}
}

func goodNames() []string {
	out := someNames()
	for _, label := range goodLabels() {
		out = append(out, label, label+".com", "ex."+label)
	}
	return out
}

func someBadNames() []string {
	return []string{
		".", "..", "...", ".com", "..com", "com.", "com..", ".com.", "a..b", "a...b", ".a.b", "a.b.", "a.b..c", "www.ex.com.", ".www.ex.com",
		"A", "COM", "A.com", "a.Com", "ex.com.Z", "WWW.EX.COM",
		"a.b.c.d.e.f.g", "a.a.a.a.a.a.a", "a.b.c.d.e.f.", ".a.b.c.d.e.f", "a.b.c.d.e.f.g.h", strings.Repeat("a.", 20) + "a",
		fiftyOneBytes, fiftyOneInSix, strings.Repeat("a", 50), strings.Repeat("a", 51), strings.Repeat("a.", 5000), strings.Repeat(".", 5000), strings.Repeat("a", 5000),
		"a.b c", "a. b", "a.b\n", "a.\x00", "\xff.com", "com.\xff", "caf\u00e9.com", "com.\u212a", "a\u3002b", "a.*",
	}
}

func badNames() []string {
	out := someBadNames()
	for _, label := range badLabels() {
		if label != "" && !strings.Contains(label, ".") {
			out = append(out, label, label+".com", "ex."+label, "ex."+label+".com")
		}
	}
	return out
}

// pairs calls check with every two of the strings, also with a string and itself.
func pairs(l []string, check func(a string, b string)) {
	for _, a := range l {
		for _, b := range l {
			check(a, b)
		}
	}
}

// comparedNames are valid and invalid names, few enough to compare each with each.
func comparedNames() []string {
	out := slices.Concat(allStrings("ab.", 5), someNames(), someBadNames())
	return append(out, "A.b", "-", "_", "~", "a\xff", "\xff.a", "a-b.a", "aa.b", "xa.b", "a.b.a.b", "a.b.a.b.a.b", "\x00", "\x00.a")
}

// reversed has the labels of s from the last one to the first one.
func reversed(s string) []string {
	if s == "" {
		return nil
	}
	out := strings.Split(s, ".")
	slices.Reverse(out)
	return out
}

func TestLimitsOfNames(t *testing.T) {
	if impl.MaxParts != 6 || impl.MaxName != 50 {
		t.Error(impl.MaxParts, impl.MaxName)
	}
	if len(fiftyBytes) != 50 || len(fiftyInSix) != 50 || len(fiftyOneBytes) != 51 || len(fiftyOneInSix) != 51 {
		t.Error(len(fiftyBytes), len(fiftyInSix), len(fiftyOneBytes), len(fiftyOneInSix))
	}
}

func TestNameOk(t *testing.T) {
	for _, s := range goodNames() {
		if !impl.NameOk(s) {
			t.Errorf("NameOk(%q) = false", s)
		}
	}
	for _, s := range badNames() {
		if impl.NameOk(s) {
			t.Errorf("NameOk(%q) = true", s)
		}
	}
}

func TestNameOkEveryNumberOfLabels(t *testing.T) {
	for n := 1; n <= 30; n++ {
		s := strings.Repeat("a.", n-1) + "b"
		if got, want := impl.NameOk(s), n <= impl.MaxParts; got != want {
			t.Errorf("NameOk of %d labels = %v", n, got)
		}
	}
}

// Names of up to six labels may have up to 77 bytes, so only their length makes some of them invalid.
func TestNameOkEveryLength(t *testing.T) {
	for first := 1; first <= impl.MaxLabel; first++ {
		for parts := 1; parts <= impl.MaxParts; parts++ {
			for size := 1; size <= impl.MaxLabel; size++ {
				s := strings.Repeat("a", first) + strings.Repeat("."+strings.Repeat("b", size), parts-1)
				if got, want := impl.NameOk(s), len(s) <= impl.MaxName; got != want {
					t.Errorf("NameOk(%q) of %d bytes = %v", s, len(s), got)
				}
			}
		}
	}
}

// One byte at every place of a name decides whether it is valid.
func TestNameOkEveryByte(t *testing.T) {
	const name = "www.ex-1.com"
	for at := range name {
		for c := range 256 {
			s := name[:at] + string([]byte{byte(c)}) + name[at+1:]
			want := !slices.Contains(strings.Split(s, "."), "")
			for _, x := range []byte(s) {
				want = want && (x == '.' || strings.IndexByte(labelBytes, x) >= 0)
			}
			if got := impl.NameOk(s); got != want {
				t.Errorf("NameOk(%q) = %v", s, got)
			}
		}
	}
}

// Promise 3.
func TestNameIsUnderItsAncestors(t *testing.T) {
	for _, s := range goodNames() {
		if !impl.Under(s, s) || !impl.Under(s, "") || !impl.Under(s, impl.Up(s)) {
			t.Errorf("%q is not under itself, the root and its parent", s)
		}
		l := impl.Above(s)
		for i, above := range l {
			if !impl.Under(s, above) {
				t.Errorf("%q is not under %q", s, above)
			}
			if got := impl.Under(above, s); got != (i == 0) {
				t.Errorf("Under(%q, %q) = %v", above, s, got)
			}
			for _, higher := range l[i:] {
				if !impl.Under(above, higher) {
					t.Errorf("%q is not under %q", above, higher)
				}
			}
		}
	}
}

// Promise 3, for names that are not valid.
func TestInvalidNameIsUnderItsAncestors(t *testing.T) {
	for _, s := range badNames() {
		if !impl.Under(s, s) {
			t.Errorf("%q is not under itself", s)
		}
		for _, above := range impl.Above(s) {
			if !impl.Under(s, above) {
				t.Errorf("%q is not under %q", s, above)
			}
		}
	}
}

func TestUnder(t *testing.T) {
	for _, c := range []struct {
		a, b string
		want bool
	}{
		{"", "", true}, {"com", "", true}, {"www.ex.com", "", true}, {"", "com", false}, {"", "ex.com", false}, {".", "", true}, {"", ".", false},
		{"com", "com", true}, {"ex.com", "com", true}, {"www.ex.com", "ex.com", true}, {"www.ex.com", "com", true}, {"www.ex.com", "www.ex.com", true},
		{"com", "ex.com", false}, {"ex.com", "www.ex.com", false}, {"com", "org", false}, {"ex.com", "ex.org", false}, {"ex.com", "ex", false}, {"www.ex.com", "www", false}, {"www.ex.com", "www.ex", false}, {"www.ex.com", "ex", false},
		{"xex.com", "ex.com", false}, {"ex.com", "xex.com", false}, {"www.xex.com", "ex.com", false}, {"xcom", "com", false}, {"x-com", "com", false}, {"ex.com", "om", false}, {"ex.com", "m", false}, {"ex.com", "x.com", false},
		{"com.com", "com", true}, {"com", "com.com", false}, {"a.b.a.b", "a.b", true}, {"a.b.a", "a.b", false},
		{fiftyBytes, "elevenbytes", true}, {fiftyInSix, "eight-88.seven-7", true}, {fiftyInSix, "ight-88.seven-7", false},
		{"Ex.com", "ex.com", false}, {"ex.COM", "com", false}, {"www.Ex.com", "Ex.com", true}, {"a.\xff", "\xff", true}, {"a\xff", "\xff", false},
		{".com", "com", true}, {"..com", "com", true}, {"..com", ".com", true}, {"com", ".com", false}, {"ex.com", ".com", false}, {"ex..com", ".com", true},
		{"com.", "com", false}, {"com", "com.", false}, {"ex.com.", "com.", true}, {"ex.com.", "com", false}, {"com.", ".", false}, {"com..", ".", true}, {"..", ".", true}, {".", "..", false}, {".", ".", true},
	} {
		if got := impl.Under(c.a, c.b); got != c.want {
			t.Errorf("Under(%q, %q) = %v", c.a, c.b, got)
		}
	}
}

func TestUnderComparesLabels(t *testing.T) {
	pairs(comparedNames(), func(a string, b string) {
		left, right := reversed(a), reversed(b)
		want := len(right) <= len(left) && slices.Equal(left[:len(right)], right)
		if got := impl.Under(a, b); got != want {
			t.Errorf("Under(%q, %q) = %v", a, b, got)
		}
	})
}

// Names under each other are equal, and a name is under all that its ancestors are under.
func TestUnderIsAnOrder(t *testing.T) {
	names := append(someNames(), "a.com", "b.a.com", "x.www.ex.com")
	pairs(names, func(a string, b string) {
		if impl.Under(a, b) && impl.Under(b, a) && a != b {
			t.Errorf("%q and %q are under each other", a, b)
		}
		for _, c := range names {
			if impl.Under(a, b) && impl.Under(b, c) && !impl.Under(a, c) {
				t.Errorf("%q is under %q, which is under %q", a, b, c)
			}
		}
		if got, want := impl.Under(a, b), slices.Contains(impl.Above(a), b); got != want {
			t.Errorf("Under(%q, %q) = %v", a, b, got)
		}
	})
}

// An empty label is a label: Up takes it away like any other one.
func TestUp(t *testing.T) {
	for s, want := range map[string]string{
		"": "", "com": "", "a": "", "ex.com": "com", "www.ex.com": "ex.com", "com.com": "com", "a.b.c.d.e.f": "b.c.d.e.f",
		fiftyBytes: "twelve-bytes.twelve-bytes.elevenbytes", "a.b.c.d.e.f.g": "b.c.d.e.f.g",
		".": "", "..": ".", "...": "..", ".com": "com", "..com": ".com", "com.": "", "com..": ".", "ex.com.": "com.", "a..b": ".b",
		"COM": "", "Ex.Com": "Com", "a b.c d": "c d", "\xff": "", "\xff.\xfe": "\xfe", "a\u3002b": "", "thirteenbytes.x": "x", "x.thirteenbytes": "thirteenbytes",
		strings.Repeat("a", 5000): "", strings.Repeat("a.", 5000): strings.Repeat("a.", 4999), strings.Repeat(".", 5000): strings.Repeat(".", 4999),
	} {
		if got := impl.Up(s); got != want {
			t.Errorf("Up(%q) = %q, want %q", s, got, want)
		}
	}
	for _, s := range goodNames() {
		if got := impl.Up(s); !impl.NameOk(got) || got == s && s != "" {
			t.Errorf("Up(%q) = %q", s, got)
		}
	}
}

func TestUpTakesOneLabelAway(t *testing.T) {
	for _, label := range goodLabels() {
		for _, s := range []string{"com", "ex.com", "a.b.c.d.e", ".", ".com", "com.", "COM", "\xff"} {
			if got := impl.Up(label + "." + s); got != s {
				t.Errorf("Up(%q) = %q", label+"."+s, got)
			}
		}
		if got := impl.Up(label); got != "" {
			t.Errorf("Up(%q) = %q", label, got)
		}
	}
}

func TestPartsOf(t *testing.T) {
	for s, want := range map[string]int{
		"": 0, "com": 1, "a": 1, "ex.com": 2, "www.ex.com": 3, "a.b.c.d.e.f": 6, fiftyBytes: 4, fiftyInSix: 6, "a.b.c.d.e.f.g": 7, fiftyOneBytes: 4,
		".": 2, "..": 3, ".com": 2, "com.": 2, ".com.": 3, "a..b": 3, "A": 1, "A.Com": 2, "a b.c": 2, "\xff": 1, "\xff.\u00e9": 2, "a\u3002b": 1, "thirteenbytes": 1,
		strings.Repeat("a", 5000): 1, strings.Repeat("a.", 5000): 5001, strings.Repeat(".", 5000): 5001,
	} {
		if got := impl.PartsOf(s); got != want {
			t.Errorf("PartsOf(%q) = %d, want %d", s, got, want)
		}
	}
}

func TestAbove(t *testing.T) {
	for s, want := range map[string][]string{
		"": {""}, "com": {"com", ""}, "a": {"a", ""}, "ex.com": {"ex.com", "com", ""}, "www.ex.com": {"www.ex.com", "ex.com", "com", ""}, "com.com": {"com.com", "com", ""},
		"a.b.c.d.e.f":   {"a.b.c.d.e.f", "b.c.d.e.f", "c.d.e.f", "d.e.f", "e.f", "f", ""},
		"a.b.c.d.e.f.g": {"a.b.c.d.e.f.g", "b.c.d.e.f.g", "c.d.e.f.g", "d.e.f.g", "e.f.g", "f.g", "g", ""},
		".":             {".", ""}, "..": {"..", ".", ""}, ".com": {".com", "com", ""}, "com.": {"com.", ""}, "com..": {"com..", ".", ""}, "a..b": {"a..b", ".b", "b", ""},
		"Ex.Com": {"Ex.Com", "Com", ""}, "\xff.a b": {"\xff.a b", "a b", ""}, "thirteenbytes": {"thirteenbytes", ""},
	} {
		if got := impl.Above(s); !slices.Equal(got, want) {
			t.Errorf("Above(%q) = %q, want %q", s, got, want)
		}
	}
}

func TestAboveLosesOneLabelAtATime(t *testing.T) {
	for _, s := range goodNames() {
		l := impl.Above(s)
		if len(l) != impl.PartsOf(s)+1 || l[0] != s || l[len(l)-1] != "" {
			t.Fatalf("Above(%q) = %q", s, l)
		}
		for i, above := range l[1:] {
			if above != impl.Up(l[i]) || impl.PartsOf(above) != impl.PartsOf(l[i])-1 || !impl.NameOk(above) {
				t.Errorf("Above(%q) has %q after %q", s, above, l[i])
			}
		}
	}
}

// The root is the last element and no other one.
func TestAboveOfInvalidNames(t *testing.T) {
	for _, s := range badNames() {
		l := impl.Above(s)
		if l[0] != s || slices.Index(l, "") != len(l)-1 {
			t.Fatalf("Above of %d bytes %.60q has %d elements", len(s), s, len(l))
		}
		for i, above := range l[1:] {
			if above != impl.Up(l[i]) {
				t.Errorf("Above(%.60q) has %.60q after %.60q", s, above, l[i])
			}
		}
	}
}

func TestLessName(t *testing.T) {
	for _, c := range [][2]string{
		{"", "com"}, {"", "a"}, {"", "-"}, {"", fiftyBytes}, {"com", "ex.com"}, {"com", "a.com"}, {"ex.com", "www.ex.com"}, {"com", "org"}, {"z.com", "a.org"}, {"com", "a.org"}, {"z.y.com", "org"},
		{"a.com", "b.com"}, {"z.a.com", "b.com"}, {"a.com", "z.a.com"}, {"b.a", "a.b"}, {"ex.com", "xex.com"}, {"www.ex.com", "xex.com"}, {"a", "aa"}, {"a.a", "aa"}, {"z.a", "aa"}, {"z.com", "coma"},
		{"-.a", "0.a"}, {"9.a", "_.a"}, {"_.a", "a.a"}, {"a.-", "a.0"}, {"a-", "ab"}, {"z.a", "a-"}, {"10", "9"}, {"b.a.a", "a.b.a"},
		{"", "."}, {"", ".com"}, {"", "com."}, {".", ".."}, {".", "a."}, {"a.", "a"}, {"z.", "a"}, {"com.", "com"}, {"com", ".com"}, {".com", "a.com"}, {".com", "..com"}, {"..com", "a..com"}, {"a..com", "a.com"},
		{"COM", "com"}, {"Z.com", "a.com"}, {"a.Z", "a.a"}, {"z", "z\x00"}, {"z", "\x80"}, {"\x80", "\xff"}, {"\u00e9", "\xff"}, {"a b", "a-b"},
	} {
		if !impl.LessName(c[0], c[1]) {
			t.Errorf("LessName(%q, %q) = false", c[0], c[1])
		}
		if impl.LessName(c[1], c[0]) {
			t.Errorf("LessName(%q, %q) = true", c[1], c[0])
		}
	}
	for _, s := range append(goodNames(), badNames()...) {
		if impl.LessName(s, s) {
			t.Errorf("%q is less than itself", s)
		}
	}
}

// Of two different names exactly one is less.
func TestLessNameComparesLabelsFromTheLast(t *testing.T) {
	pairs(comparedNames(), func(a string, b string) {
		got := impl.LessName(a, b)
		if want := slices.Compare(reversed(a), reversed(b)) < 0; got != want {
			t.Errorf("LessName(%q, %q) = %v", a, b, got)
		}
		if a != b && got == impl.LessName(b, a) {
			t.Errorf("LessName of %q and %q is %v both ways", a, b, got)
		}
	})
}

func TestAncestorIsLess(t *testing.T) {
	for _, s := range goodNames() {
		l := impl.Above(s)
		for i := range l {
			for j := range l {
				if got := impl.LessName(l[i], l[j]); got != (i > j) {
					t.Errorf("LessName(%q, %q) = %v", l[i], l[j], got)
				}
			}
		}
	}
}

// The names under one name stand together, after that name.
func TestLessNameKeepsSubdomainsTogether(t *testing.T) {
	names := goodNames()
	slices.SortFunc(names, func(a string, b string) int {
		if impl.LessName(a, b) {
			return -1
		}
		if impl.LessName(b, a) {
			return 1
		}
		return 0
	})
	names = slices.Compact(names)
	for i, top := range names {
		inside := true
		for _, s := range names[i:] {
			if impl.Under(s, top) && !inside {
				t.Errorf("%q stands apart from %q", s, top)
			}
			inside = impl.Under(s, top)
		}
	}
}

func TestAboveSharesNoMemory(t *testing.T) {
	for _, s := range []string{"", "com", "www.ex.com", "a.b.c.d.e.f", ".", "a..b", "COM.\xff"} {
		checkFreshStrings(t, "Above of "+strconv.Quote(s), func() []string { return impl.Above(s) })
	}
}
