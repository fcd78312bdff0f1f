package tests

import (
	"bytes"
	"math"
	"slices"
	"strconv"
	"strings"
	"testing"

	"loop.example/g00497/impl"
)

// lastTarget is the largest offset that a pointer can state.
const lastTarget = 16383

// nameAt is what decoding a name at some offset yields.
type nameAt struct {
	name  string
	next  int
	code  int
	jumps int
}

func decode(b []byte, at int) nameAt {
	name, next, code := impl.GetName(b, at)
	return nameAt{name, next, code, impl.JumpsIn(b, at)}
}

func failure(code int, jumps int) nameAt {
	return nameAt{"", 0, code, jumps}
}

// modelName decodes without the program: a pointer is followed by a call, and
// the labels before it are front.
func modelName(b []byte, at int, limit int, front []string) nameAt {
	if at < 0 || at >= len(b) {
		return failure(impl.WiShort, 0)
	}
	size := int(b[at])
	switch {
	case size == 0:
		return nameAt{strings.Join(front, "."), at + 1, impl.WiGood, 0}
	case size >= 192:
		return modelPointer(b, at, limit, front)
	case size > 12:
		return failure(impl.WiForm, 0)
	case at+size >= len(b):
		return failure(impl.WiShort, 0)
	}
	label := string(b[at+1 : at+1+size])
	if strings.Trim(label, labelBytes+strings.ToUpper(labelBytes)) != "" {
		return failure(impl.WiForm, 0)
	}
	whole := append(slices.Clone(front), strings.ToLower(label))
	if len(whole) > 6 || len(strings.Join(whole, ".")) > 50 {
		return failure(impl.WiLong, 0)
	}
	return modelName(b, at+1+size, limit, whole)
}

func modelPointer(b []byte, at int, limit int, front []string) nameAt {
	if at+1 >= len(b) {
		return failure(impl.WiShort, 0)
	}
	target := int(b[at])%64*256 + int(b[at+1])
	if target >= limit {
		return failure(impl.WiJump, 0)
	}
	out := modelName(b, target, target, front)
	out.jumps++
	if out.code == impl.WiGood {
		out.next = at + 2
	}
	return out
}

func model(b []byte, at int) nameAt {
	return modelName(b, at, at, nil)
}

func modelPlace(b []byte, s string) int {
	for at := range b {
		if got := model(b, at); at <= lastTarget && got.name == s && got.code == impl.WiGood {
			return at
		}
	}
	return -1
}

// plain is the encoding of s without compression, whether or not s is valid.
func plain(s string) []byte {
	out := []byte{}
	for s != "" {
		label, rest, _ := strings.Cut(s, ".")
		out = append(out, rawLabel(label)...)
		s = rest
	}
	return append(out, 0)
}

// pointer is a compression pointer to an offset from 0 to lastTarget.
func pointer(target int) []byte {
	return []byte{byte(192 + target/256), byte(target % 256)}
}

// modelPut compresses without the program.
func modelPut(b []byte, s string) []byte {
	front := bytes.Clone(b)
	for rest := s; rest != ""; {
		if place := modelPlace(b, rest); place >= 0 {
			return append(front, pointer(place)...)
		}
		label, up, _ := strings.Cut(rest, ".")
		front = append(front, rawLabel(label)...)
		rest = up
	}
	return append(front, 0)
}

func wantName(t *testing.T, b []byte, at int, want nameAt) {
	t.Helper()
	if got := decode(b, at); got != want {
		t.Errorf("GetName and JumpsIn of %.200q at %d = %v, want %v", b, at, got, want)
	}
}

// fronts are bytes that may precede a name: none, others that are no name,
// names, pointers, and truncated ones.
func fronts() [][]byte {
	return [][]byte{
		nil, {}, {0}, {9}, {255, 0, 255}, {192}, {192, 0}, {0, 192, 0}, {13, 14, 15, 191}, {1}, {5, 'e', 'x'}, []byte("\x02e"),
		[]byte("\x03com\x00"), []byte("\x02EX\x03COM\x00"), []byte("\x03www\x02ex\x03com\x00"), []byte("\x03com\x00\x02ex\xc0\x00"), []byte("\x03com\x00\xc0\x00\xc0\x05"),
		bytes.Repeat([]byte{77}, 300), bytes.Repeat([]byte{192, 0}, 200), bytes.Repeat([]byte{1, 'a'}, 40), make([]byte, 40),
	}
}

func TestCodes(t *testing.T) {
	if impl.WiGood != 0 || impl.WiShort != 1 || impl.WiForm != 2 || impl.WiJump != 3 || impl.WiLong != 4 {
		t.Error(impl.WiGood, impl.WiShort, impl.WiForm, impl.WiJump, impl.WiLong)
	}
	for n, want := range []string{"good", "short", "form", "jump", "long"} {
		if got := impl.CodeName(n); got != want {
			t.Errorf("CodeName(%d) = %q, want %q", n, got, want)
		}
	}
	for _, n := range []int{-1, -2, -4, 5, 6, 255, 256, 257, 1 << 32, 1<<32 + 1, math.MaxInt, math.MinInt} {
		if got := impl.CodeName(n); got != "" {
			t.Errorf("CodeName(%d) = %q", n, got)
		}
	}
}

func TestPutPlain(t *testing.T) {
	if got := impl.PutPlain([]byte{7}, "www.ex.com"); string(got) != "\x07\x03www\x02ex\x03com\x00" {
		t.Error(got)
	}
	if got := impl.PutPlain(nil, ""); !bytes.Equal(got, []byte{0}) {
		t.Error(got)
	}
	for _, front := range fronts() {
		for _, s := range goodNames() {
			want := append(bytes.Clone(front), plain(s)...)
			if got := impl.PutPlain(front, s); !bytes.Equal(got, want) {
				t.Errorf("PutPlain(%q, %q) = %q", front, s, got)
			}
		}
	}
}

func TestPutOfInvalidNamesReturnsSameBytes(t *testing.T) {
	for _, front := range [][]byte{nil, {}, {9}, []byte("\x03com\x00"), []byte("\x01A\x03com\x00")} {
		for _, s := range badNames() {
			if got := impl.PutPlain(front, s); !bytes.Equal(got, front) {
				t.Errorf("PutPlain(%q, %.60q) = %q", front, s, got)
			}
			if got := impl.PutName(front, s); !bytes.Equal(got, front) {
				t.Errorf("PutName(%q, %.60q) = %q", front, s, got)
			}
		}
	}
}

// Even bytes that look like the encoding of an invalid name have no place for it.
func TestPlaceOfInvalidNames(t *testing.T) {
	for _, s := range badNames() {
		if len(s) > 200 {
			continue
		}
		for _, b := range [][]byte{nil, {0}, make([]byte, 20), []byte("\x03com\x00"), plain(s), append([]byte{0}, plain(s)...)} {
			if got := impl.PlaceOf(b, s); got != -1 {
				t.Errorf("PlaceOf(%q, %q) = %d", b, s, got)
			}
		}
	}
}

func TestPutNameExactBytes(t *testing.T) {
	const ex = "\x02ex\x03com\x00"
	for _, c := range []struct{ front, name, tail string }{
		{"", "ex.com", ex}, {"", "", "\x00"}, {"", "com", "\x03com\x00"},
		{ex, "ex.com", "\xc0\x00"}, {ex, "com", "\xc0\x03"}, {ex, "www.ex.com", "\x03www\xc0\x00"}, {ex, "a.b.ex.com", "\x01a\x01b\xc0\x00"}, {ex, "org.com", "\x03org\xc0\x03"},
		{ex, "", "\x00"}, {"\x00", "", "\x00"}, {"\x00\x00", "", "\x00"}, {"\x00\xc0\x00", "", "\x00"},
		{ex, "org", "\x03org\x00"}, {ex, "ex.org", "\x02ex\x03org\x00"}, {ex, "ex", "\x02ex\x00"}, {ex, "xcom", "\x04xcom\x00"}, {ex, "com.ex", "\x03com\x02ex\x00"},
		{ex + "\x03www\xc0\x00", "www.ex.com", "\xc0\x08"}, {ex + "\x03www\xc0\x00", "a.www.ex.com", "\x01a\xc0\x08"}, {ex + "\x03www\xc0\x00", "ex.com", "\xc0\x00"},
		{"\x03com\x00\x03com\x00", "com", "\xc0\x00"}, {"\x03com\x00\xc0\x00", "com", "\xc0\x00"}, {"\xff\x03com\x00\x03com\x00", "com", "\xc0\x01"},
		{"\x03COM\x00", "com", "\xc0\x00"}, {"\x02Ex\x03cOm\x00", "www.ex.com", "\x03www\xc0\x00"},
		{"\x03com", "com", "\x03com\x00"}, {"\x02ex\x03com", "ex.com", "\x02ex\x03com\x00"}, {"\x02ex\xc0\x00", "ex", "\x02ex\x00"},
		{"\x01a\x01a\x00", "a.a", "\xc0\x00"}, {"\x01a\x01a\x00", "a", "\xc0\x02"}, {"\x01a\x01a\x00", "a.a.a", "\x01a\xc0\x00"}, {"\x01a\x01a\x00", "a.a.a.a", "\x01a\x01a\xc0\x00"},
		{"\x01a\x00\x01b\xc0\x00", "b.a", "\xc0\x03"}, {"\x01a\x00\x01b\xc0\x00", "a", "\xc0\x00"},
	} {
		if got := impl.PutName([]byte(c.front), c.name); string(got) != c.front+c.tail {
			t.Errorf("PutName(%q, %q) = %q, want %q after it", c.front, c.name, got, c.tail)
		}
	}
}

// The pointer leads to the first place of the first suffix that has one.
func TestPutNamePointsToFirstPlaceOfFirstSuffix(t *testing.T) {
	places := slices.Concat(fronts(), [][]byte{
		[]byte("\x02ex\x03com\x00\x03www\xc0\x00\x03org\x00"), []byte("\x03org\x00\x02ex\xc0\x00\x03com\x00\x02ex\xc0\x08\xc0\x05"),
		[]byte("\x01a\x01a\x01a\x01a\x01a\x01a\x00"), []byte("\x01f\x00\x01e\xc0\x00\x01d\xc0\x03\x01c\xc0\x07\x01b\xc0\x0b"), []byte("\x01b\x01c\x01d\x01e\x01f\x00"),
		slices.Concat(plain(fiftyBytes), plain(fiftyInSix)), slices.Concat([]byte{3, 99}, plain(strings.ToUpper(fiftyInSix))),
	})
	for _, front := range places {
		for _, s := range someNames() {
			want := modelPut(front, s)
			if got := impl.PutName(front, s); !bytes.Equal(got, want) {
				t.Errorf("PutName(%q, %q) = %q, want %q", front, s, got, want)
			}
			if got, want := impl.PlaceOf(front, s), modelPlace(front, s); got != want {
				t.Errorf("PlaceOf(%q, %q) = %d, want %d", front, s, got, want)
			}
		}
	}
}

func TestPlaceOf(t *testing.T) {
	const b = "\xff\x02ex\x03com\x00\x03www\xc0\x01\xc0\x04\x00\x03COM\x00"
	for s, want := range map[string]int{
		"ex.com": 1, "com": 4, "": 8, "www.ex.com": 9, "org": -1, "ex": -1, "www": -1, "ww.ex.com": -1, "om": -1, "xx.com": -1, "a.com": -1,
	} {
		if got := impl.PlaceOf([]byte(b), s); got != want {
			t.Errorf("PlaceOf(%q) = %d, want %d", s, got, want)
		}
	}
	for _, s := range someNames() {
		if got := impl.PlaceOf(nil, s); got != -1 {
			t.Errorf("PlaceOf(nil, %q) = %d", s, got)
		}
	}
	// The empty name that comes with an error is not the root.
	for _, b := range []string{"\xff", "\x0d", "\x01", "\x01a", "\xc0", "\xc0\x01\xc0\x01"} {
		if got := impl.PlaceOf([]byte(b), ""); got != -1 {
			t.Errorf("PlaceOf(%q, the root) = %d", b, got)
		}
	}
	// A pointer to a zero byte is a place of the root, but the zero byte precedes it.
	if got := impl.PlaceOf([]byte("\x01a\x00\xc0\x02"), ""); got != 2 {
		t.Error(got)
	}
}

// Promise 4.
func TestNamesAreDecodedFromTheirEncodings(t *testing.T) {
	for _, front := range fronts() {
		for _, s := range goodNames() {
			b := impl.PutPlain(front, s)
			wantName(t, b, len(front), nameAt{s, len(b), impl.WiGood, 0})
			wantName(t, append(b, 192, 0, 'a'), len(front), nameAt{s, len(b), impl.WiGood, 0})
			b = impl.PutName(front, s)
			if name, next, code := impl.GetName(b, len(front)); name != s || next != len(b) || code != impl.WiGood {
				t.Errorf("GetName(%q, %d) = %q %d %d, want %q", b, len(front), name, next, code, s)
			}
		}
	}
}

// Promise 4, for sequences of names, some of which point to earlier ones.
func TestSequenceOfNames(t *testing.T) {
	names := slices.Concat(someNames(), []string{"www.ex.com", "ex.com", "a.b.www.ex.com", "", "b.c.d.e.f", "z.b.c.d.e.f", "elevenbytes", "com"})
	for _, front := range fronts() {
		for turn := 0; turn < len(names); turn += 7 {
			order := slices.Concat(names[turn:], names[:turn])
			for i, put := range []func([]byte, string) []byte{impl.PutName, impl.PutPlain} {
				b := bytes.Clone(front)
				for _, s := range order {
					b = put(b, s)
				}
				at := len(front)
				for _, want := range order {
					s, next, code := impl.GetName(b, at)
					if s != want || code != impl.WiGood || i == 1 && next != at+len(plain(want)) {
						t.Fatalf("after %q: %q %d at %d, want %q", front, s, code, at, want)
					}
					at = next
				}
				if at != len(b) {
					t.Errorf("after %q: the names end at %d of %d", front, at, len(b))
				}
			}
		}
	}
}

func TestCompressionIsNeverLonger(t *testing.T) {
	b, size := []byte{}, 0
	for _, s := range slices.Concat(someNames(), someNames(), []string{"z.www.ex.com", "z", "z.z", "com.a", "e.f"}) {
		next := impl.PutName(b, s)
		if !bytes.HasPrefix(next, b) || len(next)-len(b) > len(plain(s)) {
			t.Errorf("PutName of %q appends %q", s, next[len(b):])
		}
		b, size = next, size+len(plain(s))
	}
	if len(b) >= size {
		t.Error(len(b), size)
	}
}

func TestNameOffset(t *testing.T) {
	const b = "\x02ex\x03com\x00\x03www\xc0\x00\x00"
	for at, want := range []nameAt{
		0: {"ex.com", 8, impl.WiGood, 0}, 3: {"com", 8, impl.WiGood, 0}, 7: {"", 8, impl.WiGood, 0},
		8: {"www.ex.com", 14, impl.WiGood, 1}, 12: {"ex.com", 14, impl.WiGood, 1}, 13: {"", 14, impl.WiGood, 0}, 14: {"", 15, impl.WiGood, 0},
		1: failure(impl.WiForm, 0), 15: failure(impl.WiShort, 0),
	} {
		if want != (nameAt{}) {
			wantName(t, []byte(b), at, want)
		}
	}
}

func TestRootAtEveryOffset(t *testing.T) {
	for at := range 20 {
		b := append(bytes.Repeat([]byte{200}, at), 0)
		wantName(t, b, at, nameAt{"", at + 1, impl.WiGood, 0})
	}
}

// A pointer to its own offset, at the start of the name, after labels and after other pointers.
func TestPointerToItself(t *testing.T) {
	for at := range 600 {
		b := append(make([]byte, at), pointer(at)...)
		wantName(t, b, at, failure(impl.WiJump, 0))
		wantName(t, append(b, 0), at, failure(impl.WiJump, 0))
		labelled := slices.Concat(make([]byte, at), []byte("\x01a"), pointer(at+2), []byte{0})
		wantName(t, labelled, at, failure(impl.WiJump, 0))
		wantName(t, labelled, at+2, failure(impl.WiJump, 0))
		wantName(t, append(b, pointer(at)...), at+2, failure(impl.WiJump, 1))
		later := slices.Concat(labelled, pointer(at))
		wantName(t, later, len(labelled), failure(impl.WiJump, 1))
	}
	wantName(t, []byte("\xc0\x00"), 0, failure(impl.WiJump, 0))
	wantName(t, append(make([]byte, lastTarget), 255, 255, 0), lastTarget, failure(impl.WiJump, 0))
}

// A pointer to the offset at which the name starts would never end.
func TestPointerToTheStart(t *testing.T) {
	for size := 1; size <= impl.MaxParts; size++ {
		b := append([]byte{0, 0, 0}, bytes.Repeat([]byte("\x01a"), size)...)
		wantName(t, append(b, pointer(3)...), 3, failure(impl.WiJump, 0))
		wantName(t, append(b, pointer(2)...), 3, nameAt{strings.Repeat("a.", size-1) + "a", len(b) + 2, impl.WiGood, 1})
	}
}

func TestPointerForward(t *testing.T) {
	for at := range 10 {
		for target := at; target < 40; target++ {
			b := append(make([]byte, at), pointer(target)...)
			b = append(b, make([]byte, 30)...)
			wantName(t, b, at, failure(impl.WiJump, 0))
		}
	}
	// The first error is the pointer, not what is where it leads.
	wantName(t, []byte{255, 255}, 0, failure(impl.WiJump, 0))
	wantName(t, []byte("\x01a\xc0\x04\x01b\x00"), 0, failure(impl.WiJump, 0))
	// It leads backward from where it is, but not from where the name starts.
	wantName(t, []byte("\x01a\x01b\xc0\x02\x00"), 0, failure(impl.WiJump, 0))
}

// After a pointer, the next one must lead to below the target of the first one.
func TestPointerNotBelowThePointerBefore(t *testing.T) {
	for target := range 12 {
		b := slices.Concat(make([]byte, 4), []byte("\x01a"), pointer(target), []byte{0, 0, 0, 0, 0}, pointer(4))
		if target < 4 {
			wantName(t, b, 13, nameAt{"a", 15, impl.WiGood, 2})
			wantName(t, b, 4, nameAt{"a", 8, impl.WiGood, 1})
		} else {
			wantName(t, b, 13, failure(impl.WiJump, 1))
			wantName(t, b, 4, failure(impl.WiJump, 0))
		}
	}
	// The offset is below the start, but not below the target before it.
	wantName(t, []byte("\x00\x01a\xc0\x01\x01b\xc0\x01"), 5, failure(impl.WiJump, 1))
	wantName(t, []byte("\x00\x01a\xc0\x03\x01b\xc0\x01"), 5, failure(impl.WiJump, 1))
	wantName(t, []byte("\x00\x01a\xc0\x00\x01b\xc0\x01"), 5, nameAt{"b.a", 9, impl.WiGood, 2})
	wantName(t, []byte("\xc0\x02\xc0\x00"), 2, failure(impl.WiJump, 1))
	wantName(t, []byte("\xc0\x02\xc0\x00"), 0, failure(impl.WiJump, 0))
}

func TestPointerToZeroByte(t *testing.T) {
	wantName(t, []byte("\x00\xc0\x00"), 1, nameAt{"", 3, impl.WiGood, 1})
	wantName(t, []byte("\x00\xc0\x00\xc0\x01"), 3, nameAt{"", 5, impl.WiGood, 2})
	wantName(t, []byte("\x00\x01a\xc0\x00"), 1, nameAt{"a", 5, impl.WiGood, 1})
	wantName(t, []byte("\x01a\x00\x02bc\xc0\x02"), 3, nameAt{"bc", 8, impl.WiGood, 1})
	wantName(t, []byte("\x00\x01a\x01b\x01c\x01d\x01e\x01f\xc0\x00"), 1, nameAt{"a.b.c.d.e.f", 15, impl.WiGood, 1})
}

// The offset that is returned is the one after the first pointer, however many follow.
func TestChainOfPointers(t *testing.T) {
	b := []byte("\x03com\x00")
	for jumps := range 300 {
		at := len(b)
		target := at - 2
		if jumps == 0 {
			target = 0
		}
		b = append(b, pointer(target)...)
		wantName(t, b, at, nameAt{"com", at + 2, impl.WiGood, jumps + 1})
		wantName(t, slices.Concat(b, []byte("\x01a"), pointer(at), []byte("\x01b")), at+2, nameAt{"a.com", at + 6, impl.WiGood, jumps + 2})
	}
}

func TestChainOfPointersBetweenLabels(t *testing.T) {
	b, name := []byte("\x00"), ""
	start := 0
	for i, label := range []string{"f", "e", "d", "c", "b", "a"} {
		at := len(b)
		b = slices.Concat(b, rawLabel(label), pointer(start))
		name = strings.TrimSuffix(label+"."+name, ".")
		wantName(t, b, at, nameAt{name, len(b), impl.WiGood, i + 1})
		start = at
	}
	at := len(b)
	b = slices.Concat(b, rawLabel("z"), pointer(start))
	wantName(t, b, at, failure(impl.WiLong, 6))
}

// A chain of pointers through all the bytes that a pointer can lead to.
func TestChainThroughAllBytes(t *testing.T) {
	b := []byte{0}
	for len(b)-2 <= lastTarget {
		b = append(b, pointer(max(len(b)-2, 0))...)
	}
	at := len(b) - 2
	wantName(t, b, at, nameAt{"", at + 2, impl.WiGood, at/2 + 1})
	b[0] = 13
	wantName(t, b, at, failure(impl.WiForm, at/2+1))
	b[1], b[2] = 255, 255
	wantName(t, b, at, failure(impl.WiJump, at/2))
}

func TestLargestOffsetOfPointers(t *testing.T) {
	for _, place := range []int{255, 256, 257, 511, 512, 16127, 16128, lastTarget - 1, lastTarget} {
		front := bytes.Repeat([]byte{77}, place)
		b := append(front, "\x03com\x00"...)
		if got := impl.PlaceOf(b, "com"); got != place {
			t.Errorf("PlaceOf = %d, want %d", got, place)
		}
		want := slices.Concat(b, []byte("\x02ex"), pointer(place))
		if got := impl.PutName(b, "ex.com"); !bytes.Equal(got, want) {
			t.Errorf("PutName after a name at %d appends %q", place, got[len(b):])
		}
		wantName(t, want, len(b), nameAt{"ex.com", len(want), impl.WiGood, 1})
	}
	if !bytes.Equal(pointer(lastTarget), []byte{255, 255}) {
		t.Error(pointer(lastTarget))
	}
}

// A name beyond the largest offset is decoded, but no pointer leads to it.
func TestNamesBeyondTheLargestOffset(t *testing.T) {
	for _, place := range []int{lastTarget + 1, lastTarget + 2, 16640, 20000, 65535, 65536, 1 << 17} {
		b := append(bytes.Repeat([]byte{77}, place), "\x03com\x00"...)
		wantName(t, b, place, nameAt{"com", len(b), impl.WiGood, 0})
		if got := impl.PlaceOf(b, "com"); got != -1 {
			t.Errorf("PlaceOf = %d", got)
		}
		if got := impl.PutName(b, "ex.com"); !bytes.Equal(got, append(bytes.Clone(b), "\x02ex\x03com\x00"...)) {
			t.Errorf("PutName after a name at %d appends %q", place, got[len(b):])
		}
		if got := impl.PlaceOf(b, ""); got != -1 {
			t.Errorf("PlaceOf of the root = %d", got)
		}
	}
	// The name starts at the last offset, and the rest of it is beyond.
	b := append(bytes.Repeat([]byte{77}, lastTarget), "\x02ex\x03com\x00"...)
	if place, other := impl.PlaceOf(b, "ex.com"), impl.PlaceOf(b, "com"); place != lastTarget || other != -1 {
		t.Error(place, other)
	}
	if got := impl.PutName(b, "com"); string(got[len(b):]) != "\x03com\x00" {
		t.Errorf("%q", got[len(b):])
	}
}

func TestLongNames(t *testing.T) {
	for _, s := range []string{fiftyBytes, fiftyInSix, "a.b.c.d.e.f"} {
		wantName(t, plain(s), 0, nameAt{s, len(plain(s)), impl.WiGood, 0})
	}
	for _, s := range []string{fiftyOneBytes, fiftyOneInSix, "a.b.c.d.e.f.g", "a.b.c.d.e.f.g.h", fiftyBytes + ".a", fiftyInSix + ".a", strings.Repeat("a.", 99) + "a"} {
		wantName(t, plain(s), 0, failure(impl.WiLong, 0))
	}
	// A name is too long with the label that makes it so, before what follows that label.
	for _, s := range []string{"a.b.c.d.e.f.g", fiftyOneBytes, fiftyOneInSix} {
		b := bytes.TrimSuffix(plain(s), []byte{0})
		for _, tail := range []string{"", "\x00", "\x0d", "\x03ab", "\xc0", "\xff\xff", "\xc0\x00", "\x01?"} {
			wantName(t, append(bytes.Clone(b), tail...), 0, failure(impl.WiLong, 0))
		}
	}
	// An error of the label itself comes before.
	six := "\x01a\x01b\x01c\x01d\x01e\x01f"
	for tail, code := range map[string]int{
		"": impl.WiShort, "\x01": impl.WiShort, "\x02g": impl.WiShort, "\x01?": impl.WiForm, "\x0dg": impl.WiForm, "\xc0": impl.WiShort, "\xc0\x00": impl.WiJump, "\x01g": impl.WiLong,
	} {
		wantName(t, []byte(six+tail), 0, failure(code, 0))
	}
}

// The labels before and after a pointer count together.
func TestLongNamesWithPointers(t *testing.T) {
	for _, c := range []struct {
		suffix, front string
		good          bool
	}{
		{"f", "a.b.c.d.e", true}, {"f", "a.b.c.d.e.x", false}, {"b.c.d.e.f", "a", true}, {"b.c.d.e.f", "a.x", false}, {"a.b.c.d.e.f", "x", false},
		{"elevenbytes", "twelve-bytes.twelve-bytes.twelve-bytes", true}, {"twelve-bytes", "twelve-bytes.twelve-bytes.twelve-bytes", false}, {"twelve-bytes.twelve-bytes.elevenbytes", "twelve-bytes", true}, {fiftyBytes, "a", false}, {fiftyInSix, "a", false},
	} {
		b := plain(c.suffix)
		at := len(b)
		b = slices.Concat(b, bytes.TrimSuffix(plain(c.front), []byte{0}), pointer(0))
		if c.good {
			wantName(t, b, at, nameAt{c.front + "." + c.suffix, len(b), impl.WiGood, 1})
		} else {
			wantName(t, b, at, failure(impl.WiLong, 1))
		}
	}
}

func TestUpperCaseInEncodings(t *testing.T) {
	for _, s := range goodNames() {
		b := plain(strings.ToUpper(s))
		wantName(t, b, 0, nameAt{s, len(b), impl.WiGood, 0})
		if got := impl.PlaceOf(b, s); got != 0 {
			t.Errorf("PlaceOf(%q, %q) = %d", b, s, got)
		}
	}
	b := []byte("\x03Com\x00\x02eX\xc0\x00")
	wantName(t, b, 5, nameAt{"ex.com", 10, impl.WiGood, 1})
	for _, s := range []string{"Com", "COM", "eX.com", "ex.Com"} {
		if got := impl.PlaceOf(b, s); got != -1 {
			t.Errorf("PlaceOf(%q) = %d", s, got)
		}
	}
}

func TestGetNameOutsideTheBytes(t *testing.T) {
	for length := range 9 {
		b := make([]byte, length)
		for _, at := range []int{
			length, length + 1, length + 12, 1 << 32, 1 << 62, math.MaxInt, math.MaxInt - 1, math.MaxInt - 13,
			-1, -2, -12, -13, -length, -length - 1, -1 << 32, math.MinInt, math.MinInt + 1,
		} {
			if at != 0 || length == 0 {
				wantName(t, b, at, failure(impl.WiShort, 0))
			}
		}
	}
	wantName(t, nil, 0, failure(impl.WiShort, 0))
}

func TestTruncatedNames(t *testing.T) {
	for _, s := range goodNames() {
		b := plain(s)
		for length := range b {
			wantName(t, b[:length], 0, failure(impl.WiShort, 0))
			wantName(t, slices.Clip(b[:length]), 0, failure(impl.WiShort, 0))
		}
	}
	// The second byte of a pointer is missing, also beyond the length of the slice.
	for first := 192; first < 256; first++ {
		whole := []byte{0, 0, byte(first), 0}
		wantName(t, whole[:3], 2, failure(impl.WiShort, 0))
		wantName(t, []byte{1, 'a', byte(first)}, 0, failure(impl.WiShort, 0))
	}
	wantName(t, []byte{0, 192, 0}[:2], 1, failure(impl.WiShort, 0))
}

// A label that is cut off is too short, even if its bytes are invalid.
func TestLengthByteThatStatesTooMuch(t *testing.T) {
	for n := 1; n <= impl.MaxLabel; n++ {
		for have := range n {
			for _, c := range []byte{'a', 'A', '?', 0, 255} {
				b := append([]byte{byte(n)}, bytes.Repeat([]byte{c}, have)...)
				wantName(t, b, 0, failure(impl.WiShort, 0))
				wantName(t, append([]byte{1, 'x'}, b...), 0, failure(impl.WiShort, 0))
			}
		}
	}
}

// From 13 on, the length byte itself is the error, whatever follows.
func TestEveryFirstByte(t *testing.T) {
	for first := range 256 {
		for _, size := range []int{0, 1, 5, 12, 13, 255} {
			b := append([]byte{byte(first)}, bytes.Repeat([]byte{'a'}, size)...)
			b = append(b, 0)
			if 13 <= first && first <= 191 {
				wantName(t, b, 0, failure(impl.WiForm, 0))
				wantName(t, b[:1], 0, failure(impl.WiForm, 0))
				wantName(t, append([]byte{1, 'x'}, b...), 0, failure(impl.WiForm, 0))
				wantName(t, slices.Concat(b, []byte{0}, pointer(0)), len(b)+1, failure(impl.WiForm, 1))
			}
			wantName(t, b, 0, model(b, 0))
		}
	}
}

func TestLabelsThatGetLabelRejects(t *testing.T) {
	for _, s := range badLabels() {
		if len(s) < 1 || len(s) > impl.MaxLabel {
			continue
		}
		for _, b := range [][]byte{
			append(rawLabel(s), 0), rawLabel(s), append([]byte("\x02ex"), rawLabel(s)...), append(rawLabel(s), "\x03com\x00"...), append(rawLabel(s), 192),
		} {
			wantName(t, b, 0, failure(impl.WiForm, 0))
		}
		b := append(rawLabel(s), pointer(0)...)
		wantName(t, b, len(b)-2, failure(impl.WiForm, 1))
	}
}

// Pointers are counted until decoding fails; the one that is not followed does not count.
func TestJumpsUntilFailure(t *testing.T) {
	for tail, want := range map[string]nameAt{
		"\xc0\x00": failure(impl.WiForm, 1), "\x01a\xc0\x00": failure(impl.WiForm, 1),
		"\xc0\x01": failure(impl.WiForm, 2), "\x01a\xc0\x01": failure(impl.WiForm, 2),
		"\xc0\x05": failure(impl.WiJump, 0), "\x01a\xc0\x05": failure(impl.WiJump, 0), "\xc0\x03": failure(impl.WiJump, 1), "\xc0": failure(impl.WiShort, 0), "\x01a\xc0": failure(impl.WiShort, 0), "\x0d\xc0\x00": failure(impl.WiForm, 0), "\x00\xc0\x00": {"", 6, impl.WiGood, 0},
	} {
		wantName(t, []byte("\x0d\xc0\x00\xc0\x03"+tail), 5, want)
	}
}

// Promise 4: decoding ends, as the model does, for all short sequences of
// lengths, letters and pointers, at every offset.
func TestAllShortEncodings(t *testing.T) {
	parts := []string{"\x00", "\x01", "\x02", "a", "B", "?", "\x0c", "\x0d", "\xbf", "\xc0", "\xc0\x00", "\xc0\x01", "\xc0\x02", "\xc0\x03", "\xc1", "\xff"}
	all := []string{""}
	for start, size := 0, 0; size < 4; size++ {
		end := len(all)
		for _, s := range all[start:end] {
			for _, part := range parts {
				all = append(all, s+part)
			}
		}
		start = end
	}
	for _, s := range all {
		for at := -1; at <= len(s)+1; at++ {
			if got, want := decode([]byte(s), at), model([]byte(s), at); got != want {
				t.Fatalf("GetName and JumpsIn of %q at %d = %v, want %v", s, at, got, want)
			}
		}
	}
}

// Promise 4: longer sequences, in which pointers lead to all offsets.
func TestManyLongEncodings(t *testing.T) {
	next := draws(1)
	names := someNames()
	codes := map[int]int{}
	for range 3000 {
		b := []byte{}
		for range 1 + next(25) {
			switch next(8) {
			case 0, 1, 2:
				b = append(b, pointer(next(len(b)+3))...)
			case 3, 4:
				b = append(b, rawLabel(labelBytes[next(30):][:1+next(8)])...)
			case 5:
				b = append(b, plain(names[next(len(names))])...)
			case 6:
				b = append(b, 0)
			default:
				b = append(b, byte(next(256)))
			}
		}
		for at := -1; at <= len(b); at++ {
			want := model(b, at)
			codes[want.code]++
			if got := decode(b, at); got != want {
				t.Fatalf("GetName and JumpsIn of %q at %d = %v, want %v", b, at, got, want)
			}
		}
		s := names[next(len(names))]
		if got, want := impl.PutName(b, s), modelPut(b, s); !bytes.Equal(got, want) {
			t.Fatalf("PutName(%q, %q) = %q, want %q", b, s, got, want)
		}
	}
	for code := impl.WiGood; code <= impl.WiLong; code++ {
		if codes[code] < 100 {
			t.Errorf("only %d names with the code %d", codes[code], code)
		}
	}
}

// What is decoded is a valid name or nothing, and it ends inside the bytes.
func TestDecodedNamesAreValid(t *testing.T) {
	for _, b := range fronts() {
		for at := -2; at < len(b)+2; at++ {
			name, next, code := impl.GetName(b, at)
			if code == impl.WiGood && (!impl.NameOk(name) || next <= at || next > len(b)) || code != impl.WiGood && (name != "" || next != 0) {
				t.Errorf("GetName(%q, %d) = %q %d %d", b, at, name, next, code)
			}
			if code < impl.WiGood || code > impl.WiLong {
				t.Errorf("GetName(%q, %d) has the code %d", b, at, code)
			}
		}
	}
}

func TestPutNamesSharesNoMemory(t *testing.T) {
	for _, s := range []string{"", "a", "www.ex.com", "a.b.c.d.e.f", ".", "a..b", "A", "a.b.c.d.e.f.g", "\xff"} {
		checkFresh(t, "PutPlain of "+strconv.Quote(s), func(b []byte) []byte { return impl.PutPlain(b, s) })
		checkFresh(t, "PutName of "+strconv.Quote(s), func(b []byte) []byte { return impl.PutName(b, s) })
	}
	for _, s := range []string{"", "com", "ex.com", "www.ex.com", "org", "Ex.com"} {
		checkFreshAfter(t, "PutName of "+strconv.Quote(s)+" with a pointer", []byte("\x02ex\x03com\x00"), func(b []byte) []byte { return impl.PutName(b, s) })
	}
}

func TestDecodingNamesChangesNothing(t *testing.T) {
	whole := []byte("\x02Ex\x03CoM\x00\x03wWw\xc0\x00\x0d\x09abc\x00")
	before := bytes.Clone(whole)
	for length := range len(whole) + 1 {
		for at := -1; at < len(whole)+1; at++ {
			impl.GetName(whole[:length], at)
			impl.JumpsIn(whole[:length], at)
		}
		impl.PlaceOf(whole[:length], "www.ex.com")
		impl.PlaceOf(whole[:length], "org")
	}
	if !bytes.Equal(whole, before) {
		t.Errorf("the argument was changed: %q", whole)
	}
	s, _, _ := impl.GetName(whole, 8)
	fill(whole, 'x')
	if s != "www.ex.com" {
		t.Errorf("the name shares memory with the bytes: %q", s)
	}
}

// What lies in the spare capacity is not part of a name and has no place.
func TestNamesIgnoreSpareCapacity(t *testing.T) {
	whole := []byte("\x03com\x00\x03org\x00")
	for length := range 5 {
		wantName(t, whole[:length], 0, failure(impl.WiShort, 0))
		if got := impl.PlaceOf(whole[:length], "com"); got != -1 {
			t.Errorf("PlaceOf in %d bytes = %d", length, got)
		}
	}
	wantName(t, whole[:5], 5, failure(impl.WiShort, 0))
	if got := impl.PlaceOf(whole[:9], "org"); got != -1 {
		t.Error(got)
	}
	if got := impl.PutName(whole[:5], "org"); string(got) != "\x03com\x00\x03org\x00" {
		t.Errorf("%q", got)
	}
	if got := impl.PutName(whole[:9], "org"); string(got) != "\x03com\x00\x03org\x03org\x00" {
		t.Errorf("%q", got)
	}
}
