package tests

import (
	"bytes"
	"math"
	"slices"
	"strconv"
	"strings"
	"testing"

	"loop.example/g00497/impl"
)

const labelBytes = "abcdefghijklmnopqrstuvwxyz0123456789-_"

// goodLabels has labels of every length, and every permitted byte at every place of a label.
func goodLabels() []string {
	out := []string{"ex", "www", "ns-1_a", "-", "_", "--", "-a-", "_tcp", "0", "007", "a", "z", "9", "twelve-bytes"}
	for size := 1; size <= impl.MaxLabel; size++ {
		out = append(out, strings.Repeat("a", size))
		for i := range len(labelBytes) - size + 1 {
			out = append(out, labelBytes[i:i+size])
		}
	}
	for i := range labelBytes {
		c := labelBytes[i : i+1]
		out = append(out, c, c+"b", "b"+c, "b"+c+"b", strings.Repeat(c, impl.MaxLabel))
	}
	return out
}

// badLabels has no label that is valid after folding.
func badLabels() []string {
	out := []string{
		"", "thirteenbytes", strings.Repeat("a", impl.MaxLabel+1), strings.Repeat("A", impl.MaxLabel+1), strings.Repeat("a", 255), strings.Repeat("a", 256), strings.Repeat("a", 258), strings.Repeat("a", 5000),
		".", "a.b", "a.", ".a", " ", "a b", "ab ", " ab", "ab\n", "\x00", "ab\x00", "*", "a+b", "a/b", "a:b", "a@b", "a[b", "a`b", "a{b",
		"\u00e9", "caf\u00e9", "\u00c9", "\u212a", "\u0131", "\uff41", "\u0661", "\u2013", "\ufffd", "\u0161", "\u0141", "\u0100", "\U00010061",
		"\xff", "a\xff", "\xffa", "\x80", "\xc3", "a\xc3b", "\xe1", "\xe1\xe2", "\xed\xa0\x80",
	}
	for c := range 256 {
		if !strings.Contains(labelBytes, strings.ToLower(string([]byte{byte(c)}))) || c >= 128 {
			s := string([]byte{byte(c)})
			out = append(out, s, s+"ab", "a"+s+"b", "ab"+s, strings.Repeat("a", impl.MaxLabel-1)+s, s+strings.Repeat("a", impl.MaxLabel-1))
		}
	}
	return out
}

// rawLabel is a length byte and the bytes of s, whether or not s is a label.
func rawLabel(s string) []byte {
	return append([]byte{byte(len(s))}, s...)
}

func TestLimitOfLabels(t *testing.T) {
	if impl.MaxLabel != 12 {
		t.Error(impl.MaxLabel)
	}
}

func TestLabelOk(t *testing.T) {
	for _, s := range goodLabels() {
		if !impl.LabelOk(s) {
			t.Errorf("LabelOk(%q) = false", s)
		}
	}
	for _, s := range badLabels() {
		if impl.LabelOk(s) {
			t.Errorf("LabelOk(%q) = true", s)
		}
	}
}

func TestLabelOkEveryByte(t *testing.T) {
	for c := range 256 {
		s := string([]byte{byte(c)})
		want := 'a' <= c && c <= 'z' || '0' <= c && c <= '9' || c == '-' || c == '_'
		for _, whole := range []string{s, s + "x", "x" + s, "x" + s + "x"} {
			if got := impl.LabelOk(whole); got != want {
				t.Errorf("LabelOk(%q) = %v", whole, got)
			}
		}
	}
}

func TestLabelOkEveryLength(t *testing.T) {
	for size := range 600 {
		if got, want := impl.LabelOk(strings.Repeat("a", size)), 1 <= size && size <= impl.MaxLabel; got != want {
			t.Errorf("LabelOk of %d bytes = %v", size, got)
		}
	}
}

func TestLabelOkUpperCase(t *testing.T) {
	for c := 'A'; c <= 'Z'; c++ {
		for _, s := range []string{string(c), string(c) + "ww", "w" + string(c) + "w", "ww" + string(c)} {
			if impl.LabelOk(s) {
				t.Errorf("LabelOk(%q) = true", s)
			}
			if !impl.LabelOk(impl.Fold(s)) {
				t.Errorf("LabelOk(Fold(%q)) = false", s)
			}
		}
	}
}

func TestFoldEveryByte(t *testing.T) {
	for c := range 256 {
		want := byte(c)
		if 'A' <= c && c <= 'Z' {
			want = byte(c) + 32
		}
		s := string([]byte{byte(c)})
		if got := impl.Fold(s); got != string([]byte{want}) {
			t.Errorf("Fold(%q) = %q", s, got)
		}
		if got := impl.Fold("Q" + s + "R"); got != "q"+string([]byte{want})+"r" {
			t.Errorf("Fold(%q) = %q", "Q"+s+"R", got)
		}
	}
}

// Letters beyond ASCII and bytes that are not UTF-8 stay as they are.
func TestFold(t *testing.T) {
	for s, want := range map[string]string{
		"": "", "WwW.[": "www.[", "@AZ[": "@az[", "`az{": "`az{", "EXAMPLE": "example", "NS-1_A": "ns-1_a",
		"\u00c9": "\u00c9", "\u0130": "\u0130", "\u212a": "\u212a", "\u03a3\u03a3": "\u03a3\u03a3", "\uff21": "\uff21", "\u1e9eB": "\u1e9eb",
		"\xff": "\xff", "A\xffB": "a\xffb", "\xc3A": "\xc3a", "\xed\xa0\x80Z": "\xed\xa0\x80z", "\x00A": "\x00a",
		strings.Repeat("A", 5000) + ".": strings.Repeat("a", 5000) + ".",
	} {
		if got := impl.Fold(s); got != want {
			t.Errorf("Fold(%q) = %q, want %q", s, got, want)
		}
		if got := impl.Fold(want); got != want {
			t.Errorf("Fold(%q) = %q", want, got)
		}
	}
}

func TestPutLabelAppendsBytes(t *testing.T) {
	if got := impl.PutLabel([]byte{7}, "ex"); !bytes.Equal(got, []byte{7, 2, 'e', 'x'}) {
		t.Error(got)
	}
	if got := impl.PutLabel(nil, "twelve-bytes"); string(got) != "\x0ctwelve-bytes" {
		t.Error(got)
	}
	for _, front := range [][]byte{nil, {}, {9}, {1, 'a', 0}, {255, 0, 255}} {
		for _, s := range goodLabels() {
			want := append(bytes.Clone(front), rawLabel(s)...)
			if got := impl.PutLabel(front, s); !bytes.Equal(got, want) {
				t.Errorf("PutLabel(%v, %q) = %v, want %v", front, s, got, want)
			}
		}
	}
}

// PutLabel does not fold: a label with an upper-case letter is invalid.
func TestPutLabelInvalidReturnsSameBytes(t *testing.T) {
	for _, front := range [][]byte{nil, {}, {9}, {1, 'a', 0}} {
		for _, s := range append(badLabels(), "Www", "wWw", "wwW", "A", "EXAMPLE") {
			if got := impl.PutLabel(front, s); !bytes.Equal(got, front) {
				t.Errorf("PutLabel(%v, %q) = %v", front, s, got)
			}
		}
	}
}

func wantLabel(t *testing.T, b []byte, at int, label string, next int) {
	t.Helper()
	if s, n, ok := impl.GetLabel(b, at); s != label || n != next || !ok {
		t.Errorf("GetLabel(%v, %d) = %q %d %v, want %q %d", b, at, s, n, ok, label, next)
	}
}

func wantNoLabel(t *testing.T, b []byte, at int) {
	t.Helper()
	if s, n, ok := impl.GetLabel(b, at); s != "" || n != 0 || ok {
		t.Errorf("GetLabel(%v, %d) = %q %d %v", b, at, s, n, ok)
	}
}

// Promise 2.
func TestGetLabelDecodesWhatPutLabelAppended(t *testing.T) {
	for _, s := range goodLabels() {
		for at := range 6 {
			b := impl.PutLabel(bytes.Repeat([]byte{170}, at), s)
			wantLabel(t, b, at, s, len(b))
			wantLabel(t, append(bytes.Clone(b), 0), at, s, len(b))
			wantLabel(t, append(bytes.Clone(b), 3, 'c', 'o', 'm', 0), at, s, len(b))
			wantLabel(t, append(bytes.Clone(b), 'a', 'A', 255), at, s, len(b))
		}
	}
}

func TestSeveralLabelsInOneSlice(t *testing.T) {
	labels := impl.Labels("www.twelve-bytes.a.ns-1_a.0")
	b := []byte{4, 2}
	for _, s := range labels {
		b = impl.PutLabel(b, s)
	}
	at := 2
	for _, want := range labels {
		s, next, ok := impl.GetLabel(b, at)
		if s != want || next != at+1+len(want) || !ok {
			t.Fatal(want, s, at, next, ok)
		}
		at = next
	}
	if at != len(b) {
		t.Error(at, len(b))
	}
	wantNoLabel(t, b, at)
}

func TestGetLabelReturnsFoldedLabel(t *testing.T) {
	wantLabel(t, []byte{2, 'E', 'x', 0}, 0, "ex", 3)
	wantLabel(t, []byte{0, 1, 'Z'}, 1, "z", 3)
	wantLabel(t, []byte("\x0cTWELVE-BYTES"), 0, "twelve-bytes", 13)
	for _, s := range goodLabels() {
		for at := range 3 {
			b := append(bytes.Repeat([]byte{200}, at), rawLabel(strings.ToUpper(s))...)
			wantLabel(t, b, at, s, len(b))
		}
	}
	for c := 'A'; c <= 'Z'; c++ {
		for _, s := range []string{string(c), string(c) + "w-", "w" + string(c) + "w", "9w" + string(c)} {
			wantLabel(t, rawLabel(s), 0, strings.ToLower(s), len(s)+1)
		}
	}
}

func TestGetLabelInvalidBytes(t *testing.T) {
	for _, s := range badLabels() {
		if len(s) > 255 {
			continue
		}
		for at := range 3 {
			b := append(make([]byte, at), rawLabel(s)...)
			wantNoLabel(t, b, at)
			wantNoLabel(t, append(b, 'a', 'b', 0), at)
		}
	}
}

// With 255 bytes after it, every length byte has as many bytes as it states.
func TestGetLabelEveryLengthByte(t *testing.T) {
	for n := range 256 {
		b := append([]byte{byte(n)}, bytes.Repeat([]byte{'a'}, 255)...)
		if 1 <= n && n <= impl.MaxLabel {
			wantLabel(t, b, 0, strings.Repeat("a", n), n+1)
		} else {
			wantNoLabel(t, b, 0)
		}
	}
}

func TestGetLabelTruncated(t *testing.T) {
	for n := range 256 {
		for have := range min(n, 20) {
			for at := range 3 {
				wantNoLabel(t, append(make([]byte, at), append([]byte{byte(n)}, bytes.Repeat([]byte{'a'}, have)...)...), at)
			}
		}
	}
}

func TestGetLabelIgnoresSpareCapacity(t *testing.T) {
	whole := []byte("\x05abcde\x05abcde")
	for length := range 6 {
		wantNoLabel(t, whole[:length], 0)
	}
	wantLabel(t, whole[:6], 0, "abcde", 6)
	wantNoLabel(t, whole[:6], 6)
}

func TestGetLabelOutsideTheBytes(t *testing.T) {
	for length := range 9 {
		b := bytes.Repeat([]byte{1, 'a'}, length)
		for at := range b {
			if at%2 == 0 {
				wantLabel(t, b, at, "a", at+2)
			} else {
				wantNoLabel(t, b, at)
			}
		}
		for _, at := range []int{
			len(b), len(b) + 1, len(b) + 12, 1 << 32, 1<<32 + 2, 1 << 62, math.MaxInt, math.MaxInt - 1, math.MaxInt - 12, math.MaxInt - 13,
			-1, -2, -12, -13, -len(b) - 1, -1 << 32, math.MinInt, math.MinInt + 1,
		} {
			wantNoLabel(t, b, at)
		}
	}
	wantNoLabel(t, nil, 0)
	wantNoLabel(t, []byte{}, 0)
}

func TestLabels(t *testing.T) {
	for s, want := range map[string][]string{
		"": {}, "a": {"a"}, "a.b.c": {"a", "b", "c"}, "www.example.com": {"www", "example", "com"},
		".": {"", ""}, "..": {"", "", ""}, "...": {"", "", "", ""}, ".a": {"", "a"}, "a.": {"a", ""}, ".a.": {"", "a", ""},
		"a..b": {"a", "", "b"}, "a...b": {"a", "", "", "b"}, "a.b..": {"a", "b", "", ""}, "..a.b": {"", "", "a", "b"},
		"A.b C.\xff": {"A", "b C", "\xff"}, "thirteenbytes.x": {"thirteenbytes", "x"}, "a\u3002b.c": {"a\u3002b", "c"}, "\xff.\x00": {"\xff", "\x00"},
	} {
		if got := impl.Labels(s); !slices.Equal(got, want) {
			t.Errorf("Labels(%q) = %q, want %q", s, got, want)
		}
	}
}

func TestJoinLabels(t *testing.T) {
	for _, c := range []struct {
		l    []string
		want string
	}{
		{nil, ""}, {[]string{}, ""}, {[]string{""}, ""}, {[]string{"a"}, "a"}, {[]string{"a", "b", "c"}, "a.b.c"},
		{[]string{"", ""}, "."}, {[]string{"", "", ""}, ".."}, {[]string{"a", ""}, "a."}, {[]string{"", "a"}, ".a"}, {[]string{"a", "", "b"}, "a..b"},
		{[]string{"a.b", "c"}, "a.b.c"}, {[]string{"A", "b c", "\xff"}, "A.b c.\xff"}, {[]string{"thirteenbytes", "x"}, "thirteenbytes.x"},
	} {
		if got := impl.JoinLabels(c.l); got != c.want {
			t.Errorf("JoinLabels(%q) = %q, want %q", c.l, got, c.want)
		}
	}
}

// allStrings has all strings of up to size of these characters, the shorter ones first.
func allStrings(characters string, size int) []string {
	out := []string{""}
	for start := 0; len(out[start]) < size; start++ {
		for _, c := range characters {
			out = append(out, out[start]+string(c))
		}
	}
	return out
}

// Promise 2, for whole strings.
func TestJoinLabelsOfLabels(t *testing.T) {
	all := allStrings("aB.", 6)
	all = append(all, strings.Repeat(".", 5000), strings.Repeat("a.", 5000), strings.Repeat("a", 5000), "\xff.\u00e9.\x00")
	for _, s := range all {
		l := impl.Labels(s)
		want := 0
		if s != "" {
			want = strings.Count(s, ".") + 1
		}
		if len(l) != want {
			t.Errorf("Labels(%q) has %d elements", s, len(l))
		}
		for _, x := range l {
			if strings.Contains(x, ".") {
				t.Errorf("Labels(%q) has the element %q", s, x)
			}
		}
		if got := impl.JoinLabels(l); got != s {
			t.Errorf("JoinLabels(Labels(%q)) = %q", s, got)
		}
	}
}

// For the invalid labels, b itself is documented as the result.
func TestPutLabelSharesNoMemory(t *testing.T) {
	for _, s := range []string{"a", "ex", "twelve-bytes", "", "thirteenbytes", "Www", "\xff"} {
		checkFresh(t, "PutLabel of "+strconv.Quote(s), func(b []byte) []byte { return impl.PutLabel(b, s) })
	}
}

func TestGetLabelChangesNothing(t *testing.T) {
	whole := []byte("\x02Ex\x03CoM\x09abc")
	before := bytes.Clone(whole)
	for at := -1; at < 12; at++ {
		impl.GetLabel(whole[:7], at)
	}
	if !bytes.Equal(whole, before) {
		t.Errorf("GetLabel changed its argument: %v", whole)
	}
	s, _, _ := impl.GetLabel(whole, 3)
	fill(whole, 'x')
	if s != "com" {
		t.Errorf("the label shares memory with the bytes: %q", s)
	}
}

func TestLabelsSharesNoMemory(t *testing.T) {
	for _, s := range []string{"", "a", "a.b.c", ".."} {
		checkFreshStrings(t, "Labels of "+strconv.Quote(s), func() []string { return impl.Labels(s) })
	}
}

// The elements beyond the length are neither joined nor changed.
func TestJoinLabelsChangesNothing(t *testing.T) {
	whole := []string{"a", "B", "", "d", "e"}
	before := slices.Clone(whole)
	for length, want := range []string{"", "a", "a.B", "a.B.", "a.B..d", "a.B..d.e"} {
		got := impl.JoinLabels(whole[:length])
		if got != want || !slices.Equal(whole, before) {
			t.Errorf("JoinLabels of %d elements = %q, and the argument is %q", length, got, whole)
		}
	}
}
