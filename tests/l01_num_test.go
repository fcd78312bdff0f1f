package tests

import (
	"bytes"
	"encoding/binary"
	"math"
	"strconv"
	"strings"
	"testing"

	"loop.example/g00497/impl"
)

// codec is one width of integer encoding, so that both widths pass the same tests.
type codec struct {
	name string
	size int
	most int
	put  func([]byte, int) []byte
	get  func([]byte, int) (int, bool)
}

func codecs() []codec {
	return []codec{
		{"two bytes", 2, impl.MaxTwo, impl.Put2, impl.Get2},
		{"four bytes", 4, impl.MaxFour, impl.Put4, impl.Get4},
	}
}

// encoded is the expected encoding of n, obtained without the program.
func encoded(c codec, n int) []byte {
	if c.size == 2 {
		return binary.BigEndian.AppendUint16(nil, uint16(n))
	}
	return binary.BigEndian.AppendUint32(nil, uint32(n))
}

// valuesUpTo returns the values around every power of two up to most, and a spread of others.
func valuesUpTo(most int) []int {
	out := []int{0, most}
	for p := 1; p <= most; p *= 2 {
		out = append(out, p-1, p)
		if p < most {
			out = append(out, p+1)
		}
	}
	for k := range 1000 {
		out = append(out, most/1000*k+k%7)
	}
	return out
}

func outOfRange(most int) []int {
	return []int{-1, -2, -255, -256, -most, -most - 1, most + 1, most + 2, 2*most + 1, 2*most + 2, 1 << 32, 1<<32 + 1, 1 << 62, math.MaxInt, math.MinInt, math.MinInt + 1}
}

func TestLimitsOfIntegers(t *testing.T) {
	if impl.MaxTwo != 65535 || impl.MaxFour != 2147483647 {
		t.Error(impl.MaxTwo, impl.MaxFour)
	}
}

func TestPutAppendsBytes(t *testing.T) {
	for _, c := range codecs() {
		for _, front := range [][]byte{nil, {}, {9}, {1, 2, 3}, {255, 0, 255, 0, 255}} {
			for _, n := range valuesUpTo(c.most) {
				want := append(bytes.Clone(front), encoded(c, n)...)
				if got := c.put(front, n); !bytes.Equal(got, want) {
					t.Errorf("%s: put(%v, %d) = %v, want %v", c.name, front, n, got, want)
				}
			}
		}
	}
}

func TestPutExactBytes(t *testing.T) {
	if got := impl.Put2([]byte{7}, 0x0102); !bytes.Equal(got, []byte{7, 1, 2}) {
		t.Error(got)
	}
	if got := impl.Put2(nil, impl.MaxTwo); !bytes.Equal(got, []byte{255, 255}) {
		t.Error(got)
	}
	if got := impl.Put4([]byte{7}, 0x01020304); !bytes.Equal(got, []byte{7, 1, 2, 3, 4}) {
		t.Error(got)
	}
	if got := impl.Put4(nil, impl.MaxFour); !bytes.Equal(got, []byte{127, 255, 255, 255}) {
		t.Error(got)
	}
}

func TestPutOutOfRangeReturnsSameBytes(t *testing.T) {
	for _, c := range codecs() {
		for _, front := range [][]byte{nil, {}, {9}, {1, 2, 3}} {
			for _, n := range outOfRange(c.most) {
				if got := c.put(front, n); !bytes.Equal(got, front) {
					t.Errorf("%s: put(%v, %d) = %v", c.name, front, n, got)
				}
			}
		}
	}
}

// Promise 1.
func TestGetDecodesWhatPutAppended(t *testing.T) {
	for _, c := range codecs() {
		for _, n := range valuesUpTo(c.most) {
			for at := range 6 {
				front := bytes.Repeat([]byte{170}, at)
				b := c.put(front, n)
				if got, ok := c.get(b, at); got != n || !ok {
					t.Errorf("%s: get(%v, %d) = %d %v, want %d", c.name, b, at, got, ok, n)
				}
				b = append(b, 1, 2, 3)
				if got, ok := c.get(b, at); got != n || !ok {
					t.Errorf("%s, with bytes after it: get(%v, %d) = %d %v, want %d", c.name, b, at, got, ok, n)
				}
			}
		}
	}
}

func TestTwoByteIntegersAll(t *testing.T) {
	for n := range impl.MaxTwo + 1 {
		b := impl.Put2(nil, n)
		if len(b) != 2 || int(b[0]) != n/256 || int(b[1]) != n%256 {
			t.Fatal(n, b)
		}
		if got, ok := impl.Get2(b, 0); got != n || !ok {
			t.Fatal(n, got, ok)
		}
	}
}

func TestSeveralIntegersInOneSlice(t *testing.T) {
	b := impl.Put2(nil, 513)
	b = impl.Put4(b, 67305985)
	b = impl.Put2(b, impl.MaxTwo)
	b = impl.Put4(b, impl.MaxFour)
	if len(b) != 12 {
		t.Fatal(b)
	}
	for _, c := range []struct{ at, n int }{{0, 513}, {6, impl.MaxTwo}} {
		if n, ok := impl.Get2(b, c.at); n != c.n || !ok {
			t.Error(c.at, n, ok)
		}
	}
	for _, c := range []struct{ at, n int }{{2, 67305985}, {8, impl.MaxFour}} {
		if n, ok := impl.Get4(b, c.at); n != c.n || !ok {
			t.Error(c.at, n, ok)
		}
	}
}

// An integer is truncated if any of its bytes lies beyond the end, however large the offset.
func TestGetOutsideTheBytes(t *testing.T) {
	for _, c := range codecs() {
		for length := range 9 {
			b := bytes.Repeat([]byte{1}, length)
			for at := range length + 5 {
				n, ok := c.get(b, at)
				if want := at+c.size <= length; ok != want || !ok && n != 0 || ok && n == 0 {
					t.Errorf("%s: get of %d bytes at %d = %d %v", c.name, length, at, n, ok)
				}
			}
			for _, at := range []int{-1, -2, -3, -4, -5, -length - 1, math.MinInt, math.MinInt + 1, 1 << 32, 1 << 62, math.MaxInt, math.MaxInt - 1, math.MaxInt - 2, math.MaxInt - 3, math.MaxInt - 4} {
				if n, ok := c.get(b, at); n != 0 || ok {
					t.Errorf("%s: get of %d bytes at %d = %d %v", c.name, length, at, n, ok)
				}
			}
		}
		if n, ok := c.get(nil, 0); n != 0 || ok {
			t.Errorf("%s: get(nil, 0) = %d %v", c.name, n, ok)
		}
	}
}

func TestGetIgnoresSpareCapacity(t *testing.T) {
	for _, c := range codecs() {
		b := bytes.Repeat([]byte{1}, 16)
		for length := range c.size {
			if n, ok := c.get(b[:length], 0); n != 0 || ok {
				t.Errorf("%s: get of %d bytes with spare capacity = %d %v", c.name, length, n, ok)
			}
		}
	}
}

func TestGet4ValuesAboveTheLimit(t *testing.T) {
	for _, b := range [][]byte{{128, 0, 0, 0}, {128, 0, 0, 1}, {129, 2, 3, 4}, {192, 0, 0, 0}, {255, 0, 0, 0}, {255, 255, 255, 255}} {
		for at := range 3 {
			whole := append(make([]byte, at), b...)
			if n, ok := impl.Get4(whole, at); n != 0 || ok {
				t.Errorf("Get4(%v, %d) = %d %v", whole, at, n, ok)
			}
		}
	}
	if n, ok := impl.Get4([]byte{127, 255, 255, 255}, 0); n != impl.MaxFour || !ok {
		t.Error(n, ok)
	}
	if n, ok := impl.Get2([]byte{255, 255}, 0); n != impl.MaxTwo || !ok {
		t.Error(n, ok)
	}
}

// The value that is out of range is one for which b itself is documented as the result.
func TestPutSharesNoMemory(t *testing.T) {
	for _, c := range codecs() {
		for _, n := range []int{0, 1, c.most, c.most + 1, -1} {
			checkFresh(t, c.name+": put of "+strconv.Itoa(n), func(b []byte) []byte { return c.put(b, n) })
		}
	}
}

func TestGetChangesNothing(t *testing.T) {
	for _, c := range codecs() {
		whole := []byte{1, 2, 3, 4, 5, 6, 7, 8}
		before := bytes.Clone(whole)
		for at := -1; at < 9; at++ {
			c.get(whole[:6], at)
		}
		if !bytes.Equal(whole, before) {
			t.Errorf("%s: get changed its argument: %v", c.name, whole)
		}
	}
}

func TestNumText(t *testing.T) {
	for n, want := range map[int]string{
		0: "0", 1: "1", 9: "9", 10: "10", 17: "17", 100: "100", -1: "-1", -3: "-3", -10: "-10",
		impl.MaxTwo: "65535", impl.MaxFour: "2147483647", impl.MaxFour + 1: "2147483648", -impl.MaxFour: "-2147483647",
		math.MaxInt: "9223372036854775807", math.MinInt: "-9223372036854775808",
	} {
		if got := impl.NumText(n); got != want {
			t.Errorf("NumText(%d) = %q, want %q", n, got, want)
		}
	}
}

// Promise 1.
func TestParseNumReadsNumText(t *testing.T) {
	for _, n := range valuesUpTo(impl.MaxFour) {
		if got, ok := impl.ParseNum(impl.NumText(n)); got != n || !ok {
			t.Errorf("ParseNum(NumText(%d)) = %d %v", n, got, ok)
		}
	}
	for _, n := range outOfRange(impl.MaxFour) {
		if got, ok := impl.ParseNum(impl.NumText(n)); got != 0 || ok {
			t.Errorf("ParseNum(NumText(%d)) = %d %v", n, got, ok)
		}
	}
	for s, want := range map[string]int{"0": 0, "17": 17, "1000": 1000, "2147483647": impl.MaxFour} {
		if got, ok := impl.ParseNum(s); got != want || !ok {
			t.Errorf("ParseNum(%q) = %d %v", s, got, ok)
		}
	}
}

func TestParseNumInvalid(t *testing.T) {
	for _, s := range []string{
		"", "-", "+", "-0", "+0", "-1", "+7", "--1", "00", "01", "017", "-01",
		" ", " 1", "1 ", "1\n", "\t1", "1 2", "1\x00", "\x001",
		"a", "1a", "a1", "1_0", "1,000", "0x10", "0b1", "0o7", "1e3", "1.0", ".", "1.",
		"2147483648", "2147483650", "4294967295", "4294967296", "4294967297", "9999999999",
		"9223372036854775807", "9223372036854775808", "18446744073709551616", "18446744073709551633", "340282366920938463463374607431768211473",
		"02147483647", "-2147483648", "-9223372036854775808", "-18446744073709551599",
		"\u0661", "\uff11", "\u00b2", "\xff", "1\xff", "\u22121",
		strings.Repeat("0", 5000), strings.Repeat("0", 5000) + "1", strings.Repeat("9", 5000),
	} {
		if n, ok := impl.ParseNum(s); n != 0 || ok {
			t.Errorf("ParseNum(%q) = %d %v", s, n, ok)
		}
	}
}

// Every string of up to three of these characters is accepted exactly if it is some number's NumText.
func TestParseNumAllShortStrings(t *testing.T) {
	texts := map[string]int{}
	for n := range 1000 {
		texts[impl.NumText(n)] = n
	}
	all := []string{""}
	for start := 0; len(all[start]) < 3; start++ {
		for _, c := range "0123456789+-_. xe" {
			all = append(all, all[start]+string(c))
		}
	}
	for _, s := range all {
		want, wantOk := texts[s]
		if n, ok := impl.ParseNum(s); n != want || ok != wantOk {
			t.Errorf("ParseNum(%q) = %d %v", s, n, ok)
		}
	}
}

func TestLeastAndMost(t *testing.T) {
	for _, c := range []struct{ a, b, least, most int }{
		{2, -1, -1, 2}, {-1, 2, -1, 2}, {3, 3, 3, 3}, {0, 0, 0, 0}, {-5, -4, -5, -4}, {0, 1, 0, 1},
		{math.MinInt, math.MaxInt, math.MinInt, math.MaxInt}, {math.MaxInt, math.MinInt, math.MinInt, math.MaxInt},
		{math.MinInt, math.MinInt, math.MinInt, math.MinInt}, {math.MaxInt, -1, -1, math.MaxInt},
	} {
		if got := impl.Least(c.a, c.b); got != c.least {
			t.Errorf("Least(%d, %d) = %d", c.a, c.b, got)
		}
		if got := impl.Most(c.a, c.b); got != c.most {
			t.Errorf("Most(%d, %d) = %d", c.a, c.b, got)
		}
	}
}
