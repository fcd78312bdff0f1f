package tests

import (
	"bytes"
	"encoding/binary"
	"math"
	"slices"
	"strings"
	"testing"

	"loop.example/g00497/impl"
)

// recordAt is what decoding a record at some offset yields.
type recordAt struct {
	r    impl.Record
	next int
	code int
}

func two(n int) []byte {
	return binary.BigEndian.AppendUint16(nil, uint16(n))
}

func four(n int) []byte {
	return binary.BigEndian.AppendUint32(nil, uint32(n))
}

// modelData encodes the data of a valid record without the program.
func modelData(r impl.Record) []byte {
	switch r.Type {
	case impl.TyAddr:
		return four(r.N)
	case impl.TyServer, impl.TyAlias:
		return plain(r.Host)
	case impl.TyStart:
		return append(plain(r.Host), four(r.N)...)
	}
	return append([]byte{byte(len(r.Text))}, r.Text...)
}

// rawRecord encodes a record from its parts, whether or not they are valid.
func rawRecord(name []byte, ty int, class int, ttl int, size int, data []byte) []byte {
	return slices.Concat(name, two(ty), two(class), four(ttl), two(size), data)
}

// modelRecord encodes a valid record without the program.
func modelRecord(front []byte, r impl.Record) []byte {
	data := modelData(r)
	return rawRecord(modelPut(front, r.Name), r.Type, 1, r.Ttl, len(data), data)
}

// plainRecord is a record whose name and data have these bytes, in the class 1
// and with the right length.
func plainRecord(name string, ty int, data string) []byte {
	return rawRecord([]byte(name), ty, 1, 60, len(data), []byte(data))
}

func hasHost(ty int) bool {
	return ty == impl.TyServer || ty == impl.TyAlias || ty == impl.TyStart
}

func mostOf(ty int) int {
	return map[int]int{impl.TyAddr: impl.MaxFour, impl.TyStart: impl.MaxTtl}[ty]
}

func modelTextOk(s string) bool {
	outside := func(c rune) bool { return c < 33 || c > 126 }
	return len(s) <= 12 && !strings.ContainsFunc(s, outside)
}

// modelGetData decodes data without the program: it takes the n bytes apart
// from the end, where the number of a record stands.
func modelGetData(b []byte, at int, n int, ty int) (impl.Record, int) {
	none, r := impl.Record{}, impl.Record{Type: ty}
	switch {
	case n < 0 || n > 255:
		return none, impl.WiForm
	case at < 0 || at > len(b) || len(b)-at < n:
		return none, impl.WiShort
	case !slices.Contains(recordTypes(), ty):
		return none, impl.WiForm
	}
	size := n
	if ty == impl.TyAddr || ty == impl.TyStart {
		size -= 4
	}
	if hasHost(ty) {
		got := model(b, at)
		if got.code != impl.WiGood {
			return none, got.code
		}
		r.Host, size = got.name, size-(got.next-at)
	} else if ty == impl.TyText && n > 0 {
		r.Text, size = string(b[at+1:at+n]), int(b[at])-(n-1)
	} else if ty == impl.TyText {
		return none, impl.WiForm
	}
	if size != 0 || !modelTextOk(r.Text) {
		return none, impl.WiForm
	}
	if mostOf(ty) > 0 {
		r.N = int(binary.BigEndian.Uint32(b[at+n-4 : at+n]))
		if r.N > mostOf(ty) {
			return none, impl.WiForm
		}
	}
	return r, impl.WiGood
}

func modelGetRecord(b []byte, at int) recordAt {
	name := model(b, at)
	if name.code != impl.WiGood {
		return recordAt{code: name.code}
	}
	rest := b[name.next:]
	if len(rest) < 10 {
		return recordAt{code: impl.WiShort}
	}
	n := int(binary.BigEndian.Uint16(rest[8:]))
	r, code := modelGetData(b, name.next+10, n, int(binary.BigEndian.Uint16(rest)))
	if code != impl.WiGood {
		return recordAt{code: code}
	}
	r.Name, r.Ttl = name.name, int(binary.BigEndian.Uint32(rest[4:]))
	if !bytes.Equal(rest[2:4], []byte{0, 1}) || r.Ttl > 100000 {
		return recordAt{code: impl.WiForm}
	}
	return recordAt{r, name.next + 10 + n, impl.WiGood}
}

func wantData(t *testing.T, b []byte, at int, n int, ty int, r impl.Record, code int) {
	t.Helper()
	if got, c := impl.GetData(b, at, n, ty); got != r || c != code {
		t.Errorf("GetData(%.300q, %d, %d, %d) = %#v %d, want %#v %d", b, at, n, ty, got, c, r, code)
	}
}

func wantNoData(t *testing.T, b []byte, at int, n int, ty int, code int) {
	t.Helper()
	wantData(t, b, at, n, ty, impl.Record{}, code)
}

func wantRecord(t *testing.T, b []byte, at int, want recordAt) {
	t.Helper()
	r, next, code := impl.GetRecord(b, at)
	if (recordAt{r, next, code}) != want {
		t.Errorf("GetRecord(%.300q, %d) = %#v %d %d, want %#v", b, at, r, next, code, want)
	}
}

func wantNoRecord(t *testing.T, b []byte, at int, code int) {
	t.Helper()
	wantRecord(t, b, at, recordAt{code: code})
}

func wantRecords(t *testing.T, b []byte, at int, k int, l []impl.Record, next int, code int) {
	t.Helper()
	got, n, c := impl.GetRecords(b, at, k)
	if !slices.Equal(got, l) || n != next || c != code {
		t.Errorf("GetRecords(%.300q, %d, %d) = %s %d %d, want %s %d %d", b, at, k, brief(got), n, c, brief(l), next, code)
	}
}

// bare is r as its data alone tell it: of the root, and with the Ttl 0.
func bare(r impl.Record) impl.Record {
	r.Name, r.Ttl = "", 0
	return r
}

// codedRecords are valid records of all types with names, numbers and texts of
// all sizes, few enough to be encoded behind every front.
func codedRecords() []impl.Record {
	out := []impl.Record{}
	for _, name := range someNames() {
		out = append(out, oneOfEach(name)...)
		out = append(out, impl.Record{Name: name, Type: impl.TyAlias, Ttl: impl.MaxTtl, Host: name})
		out = append(out, impl.Record{Name: "ex.com", Type: impl.TyServer, Host: name})
		out = append(out, impl.Record{Name: "a", Type: impl.TyStart, Host: name, N: impl.MaxTtl})
	}
	for _, ty := range recordTypes() {
		out = append(out, impl.Record{Type: ty}, impl.Record{Name: "www.ex.com", Type: ty, Ttl: impl.MaxTtl})
	}
	for _, n := range addrValues() {
		out = append(out, impl.Record{Name: "ex.com", Type: impl.TyAddr, Ttl: 1, N: n})
	}
	for _, text := range []string{"", "a", "'", "!~", "twelve-bytes", "TWELVE=BYTES"} {
		out = append(out, impl.Record{Name: "ex.com", Type: impl.TyText, Ttl: 1, Text: text})
	}
	return out
}

// tails are bytes that may follow a record.
func tails() [][]byte {
	return [][]byte{nil, {0}, {1}, {192, 0}, {255, 255, 255}, []byte("\x03com\x00"), make([]byte, 300), bytes.Repeat([]byte{77}, 300)}
}

func TestLimitOfLists(t *testing.T) {
	if impl.MaxList != 8 {
		t.Error(impl.MaxList)
	}
}

func TestPutDataExactBytes(t *testing.T) {
	for _, c := range []struct {
		r    impl.Record
		data string
	}{
		{impl.Record{Name: "ex.com", Type: impl.TyAddr, Ttl: 60, N: 7}, "\x00\x00\x00\x07"},
		{impl.Record{Type: impl.TyAddr}, "\x00\x00\x00\x00"},
		{impl.Record{Type: impl.TyAddr, N: 0x01020304}, "\x01\x02\x03\x04"},
		{impl.Record{Type: impl.TyAddr, N: impl.MaxFour}, "\x7f\xff\xff\xff"},
		{impl.Record{Name: "com", Type: impl.TyServer, Host: "ns.com"}, "\x02ns\x03com\x00"},
		{impl.Record{Type: impl.TyServer}, "\x00"},
		{impl.Record{Name: "a", Type: impl.TyAlias, Ttl: 9, Host: "a.a.a"}, "\x01a\x01a\x01a\x00"},
		{impl.Record{Type: impl.TyAlias}, "\x00"},
		{impl.Record{Name: "com", Type: impl.TyStart, Ttl: 9, Host: "ex.com", N: 4}, "\x02ex\x03com\x00\x00\x00\x00\x04"},
		{impl.Record{Type: impl.TyStart}, "\x00\x00\x00\x00\x00"},
		{impl.Record{Type: impl.TyStart, N: impl.MaxTtl}, "\x00\x00\x01\x86\xa0"},
		{impl.Record{Type: impl.TyText}, "\x00"},
		{impl.Record{Name: "a", Type: impl.TyText, Text: "hi"}, "\x02hi"},
		{impl.Record{Type: impl.TyText, Text: "TWELVE=BYTES"}, "\x0cTWELVE=BYTES"},
	} {
		if got := impl.PutData(c.r); string(got) != c.data {
			t.Errorf("PutData(%#v) = %q, want %q", c.r, got, c.data)
		}
	}
	for _, r := range goodRecords() {
		if got, want := impl.PutData(r), modelData(r); !bytes.Equal(got, want) {
			t.Errorf("PutData(%#v) = %q, want %q", r, got, want)
		}
	}
}

func TestPutRecordExactBytes(t *testing.T) {
	const ex = "\x02ex\x03com\x00"
	for _, c := range []struct {
		front string
		r     impl.Record
		tail  string
	}{
		{"", impl.Record{Name: "ex.com", Type: impl.TyAddr, Ttl: 60, N: 7}, ex + "\x00\x01\x00\x01\x00\x00\x00\x3c\x00\x04\x00\x00\x00\x07"},
		{ex, impl.Record{Name: "ex.com", Type: impl.TyAddr, Ttl: 60, N: 7}, "\xc0\x00\x00\x01\x00\x01\x00\x00\x00\x3c\x00\x04\x00\x00\x00\x07"},
		{ex, impl.Record{Name: "www.ex.com", Type: impl.TyAlias, Ttl: impl.MaxTtl, Host: "ex.com"}, "\x03www\xc0\x00\x00\x05\x00\x01\x00\x01\x86\xa0\x00\x08" + ex},
		{"", impl.Record{Type: impl.TyServer, Host: "com"}, "\x00\x00\x02\x00\x01\x00\x00\x00\x00\x00\x05\x03com\x00"},
		{"\x00", impl.Record{Type: impl.TyServer}, "\x00\x00\x02\x00\x01\x00\x00\x00\x00\x00\x01\x00"},
		{"", impl.Record{Name: "a", Type: impl.TyStart, Ttl: 258, Host: "a", N: 3}, "\x01a\x00\x00\x06\x00\x01\x00\x00\x01\x02\x00\x07\x01a\x00\x00\x00\x00\x03"},
		{"\xff", impl.Record{Name: "a", Type: impl.TyText, Text: "hi"}, "\x01a\x00\x00\x10\x00\x01\x00\x00\x00\x00\x00\x03\x02hi"},
	} {
		if got := impl.PutRecord([]byte(c.front), c.r); string(got) != c.front+c.tail {
			t.Errorf("PutRecord(%q, %#v) = %q, want %q after it", c.front, c.r, got, c.tail)
		}
	}
	for _, front := range fronts() {
		for _, r := range codedRecords() {
			if got, want := impl.PutRecord(front, r), modelRecord(front, r); !bytes.Equal(got, want) {
				t.Errorf("PutRecord(%q, %#v) = %q, want %q", front, r, got, want)
			}
		}
	}
}

// Promise 6.
func TestRecordsAreDecodedFromTheirEncodings(t *testing.T) {
	for _, front := range fronts() {
		for _, r := range codedRecords() {
			b := impl.PutRecord(front, r)
			for _, tail := range tails() {
				wantRecord(t, slices.Concat(b, tail), len(front), recordAt{r, len(b), impl.WiGood})
			}
		}
	}
	for _, r := range goodRecords() {
		b := impl.PutRecord(nil, r)
		wantRecord(t, b, 0, recordAt{r, len(b), impl.WiGood})
	}
}

// Promise 6, for the data alone.
func TestDataAreDecodedFromTheirEncodings(t *testing.T) {
	for _, front := range fronts() {
		for _, r := range codedRecords() {
			data := impl.PutData(r)
			for _, tail := range tails() {
				wantData(t, slices.Concat(front, data, tail), len(front), len(data), r.Type, bare(r), impl.WiGood)
			}
		}
	}
	for _, r := range goodRecords() {
		data := impl.PutData(r)
		wantData(t, data, 0, len(data), r.Type, bare(r), impl.WiGood)
	}
}

// Promise 6, for lists: the names of later records point into earlier ones.
func TestListsAreDecodedFromTheirEncodings(t *testing.T) {
	all := codedRecords()
	for _, front := range fronts() {
		for k := range impl.MaxList + 1 {
			for at := 0; at+k <= len(all); at += 17 {
				l := all[at : at+k]
				b, want := impl.PutRecords(front, l), bytes.Clone(front)
				for _, r := range l {
					want = modelRecord(want, r)
				}
				if !bytes.Equal(b, want) {
					t.Fatalf("PutRecords(%q, %s) = %q, want %q", front, brief(l), b, want)
				}
				wantRecords(t, b, len(front), k, l, len(b), impl.WiGood)
				wantRecords(t, append(b, 192, 0, 1), len(front), k, l, len(b), impl.WiGood)
			}
		}
	}
}

// A list may be longer than one that GetRecords accepts at once.
func TestPutRecordsOfLongLists(t *testing.T) {
	l := codedRecords()[:3*impl.MaxList]
	b := impl.PutRecords([]byte{9}, l)
	at := 1
	for part := range slices.Chunk(l, impl.MaxList) {
		got, next, code := impl.GetRecords(b, at, len(part))
		if !slices.Equal(got, part) || code != impl.WiGood {
			t.Errorf("at %d: %v %d", at, got, code)
		}
		at = next
	}
	if at != len(b) {
		t.Error(at, len(b))
	}
}

// Every name may be compressed: by a pointer alone or with labels before it,
// to names before the record, to its own name, and through other pointers.
func TestCompressedNamesInRecords(t *testing.T) {
	const front = "\x02Ex\x03coM\x00\xc0\x00\x01b\xc0\x08\x00"
	hosts := map[string]string{
		"\xc0\x00": "ex.com", "\xc0\x03": "com", "\xc0\x08": "ex.com", "\xc0\x0a": "b.ex.com", "\xc0\x07": "", "\xc0\x0e": "",
		"\x03wWw\xc0\x0a": "www.b.ex.com", "\x01a\x01b\xc0\x03": "a.b.com", "\x01a\xc0\x07": "a", "\x02NS\x00": "ns", "\x00": "",
	}
	for name, want := range hosts {
		for data, host := range hosts {
			for _, ty := range []int{impl.TyServer, impl.TyAlias} {
				b := append([]byte(front), plainRecord(name, ty, data)...)
				wantRecord(t, append(b, 1, 2, 3), len(front), recordAt{impl.Record{Name: want, Type: ty, Ttl: 60, Host: host}, len(b), impl.WiGood})
				wantData(t, b, len(b)-len(data), len(data), ty, impl.Record{Type: ty, Host: host}, impl.WiGood)
			}
			b := append([]byte(front), plainRecord(name, impl.TyStart, data+"\x00\x00\x00\x09")...)
			wantRecord(t, append(b, 1, 2, 3), len(front), recordAt{impl.Record{Name: want, Type: impl.TyStart, Ttl: 60, Host: host, N: 9}, len(b), impl.WiGood})
			wantData(t, b, len(b)-len(data)-4, len(data)+4, impl.TyStart, impl.Record{Type: impl.TyStart, Host: host, N: 9}, impl.WiGood)
		}
	}
	own := plainRecord("\x02ex\x03com\x00", impl.TyAlias, "\x03www\xc0\x03")
	wantRecord(t, own, 0, recordAt{impl.Record{Name: "ex.com", Type: impl.TyAlias, Ttl: 60, Host: "www.com"}, len(own), impl.WiGood})
	own = plainRecord("\x02ex\x03com\x00", impl.TyStart, "\xc0\x00\x00\x00\x00\x05")
	wantRecord(t, own, 0, recordAt{impl.Record{Name: "ex.com", Type: impl.TyStart, Ttl: 60, Host: "ex.com", N: 5}, len(own), impl.WiGood})
}

// A name in the data may point to every offset before the data, and to no other.
func TestPointersInDataLeadBeforeTheData(t *testing.T) {
	front := strings.Repeat("\x01a\x00", 5)
	for target := range len(front) + 8 {
		name := "\x01b" + string(pointer(target))
		code, host := impl.WiGood, "b.a"
		switch {
		case target >= len(front):
			code = impl.WiJump
		case target%3 == 1: // the letter, which is no length
			code = impl.WiForm
		case target%3 == 2:
			host = "b"
		}
		for _, ty := range []int{impl.TyServer, impl.TyAlias, impl.TyStart} {
			want, data := impl.Record{Type: ty, Host: host}, name
			if ty == impl.TyStart {
				want.N, data = 9, name+"\x00\x00\x00\x09"
			}
			if code != impl.WiGood {
				want = impl.Record{}
			}
			wantData(t, []byte(front+data), len(front), len(data), ty, want, code)
		}
	}
	for _, ty := range []int{impl.TyServer, impl.TyAlias, impl.TyStart} {
		b := plainRecord("\x01a\x00", ty, "\xc0\x0d\x00\x00\x00\x00")
		wantNoRecord(t, b, 0, impl.WiJump)
		wantNoRecord(t, plainRecord("\xc0\x00", ty, "\x00"), 0, impl.WiJump)
		b = plainRecord("\x01a\x00", ty, "\xc0\xff\x00\x00\x00\x00")
		wantNoRecord(t, b, 0, impl.WiJump)
	}
}

// Only one number of bytes is right: all others are too many or too few.
func TestDataLongerOrShorterThanStated(t *testing.T) {
	for _, r := range append(oneOfEach("ex.com"), codedRecords()[:60]...) {
		data := modelData(r)
		for _, tail := range [][]byte{make([]byte, 300), bytes.Repeat([]byte{'a'}, 300), bytes.Repeat([]byte{1, 'a'}, 150), bytes.Repeat([]byte{255}, 300)} {
			for _, front := range []string{"", "\x03com\x00"} {
				b := slices.Concat([]byte(front), data, tail)
				for n := range 256 {
					if n == len(data) {
						wantData(t, b, len(front), n, r.Type, bare(r), impl.WiGood)
					} else {
						wantNoData(t, b, len(front), n, r.Type, impl.WiForm)
					}
				}
			}
		}
	}
}

func TestRecordsWithAnotherLengthThanStated(t *testing.T) {
	for _, r := range append(oneOfEach("ex.com"), oneOfEach("")...) {
		data := modelData(r)
		name := plain(r.Name)
		end := len(name) + 10
		for _, tail := range []int{0, 1, 4, 300, 70000} {
			for _, n := range []int{0, 1, 2, 3, 4, 5, 6, 7, 8, 9, 10, 11, 12, 13, 14, 15, 16, 50, 254, 255, 256, 257, 260, 264, 300, 65535} {
				b := append(rawRecord(name, r.Type, 1, r.Ttl, n, data), make([]byte, tail)...)
				want := recordAt{code: impl.WiForm}
				if n == len(data) {
					want = recordAt{r, end + n, impl.WiGood}
				} else if n <= 255 && end+n > len(b) {
					want.code = impl.WiShort
				}
				wantRecord(t, b, 0, want)
			}
		}
	}
}

// The data have one byte more or less than the type needs, and the length says so.
func TestDataOfEveryLength(t *testing.T) {
	for size := range 20 {
		for _, fill := range []byte{0, 1, 'a'} {
			data := bytes.Repeat([]byte{fill}, size)
			for _, ty := range recordTypes() {
				for _, tail := range tails() {
					b := append(bytes.Clone(data), tail...)
					r, code := modelGetData(b, 0, size, ty)
					wantData(t, b, 0, size, ty, r, code)
				}
			}
		}
		want := impl.WiForm
		if size == 4 {
			want = impl.WiGood
		}
		if _, code := impl.GetData(make([]byte, 40), 3, size, impl.TyAddr); code != want {
			t.Errorf("an address of %d bytes has the code %d", size, code)
		}
	}
}

func TestNumberOfDataBytesOutOfRange(t *testing.T) {
	b := slices.Concat([]byte("\x00\xc0\x00\x00\x00\x05"), make([]byte, 600))
	for _, n := range append(outOfRange(255), 256, 257, 258, 511, 512, 600, 65535, 65536, 1<<32+4) {
		for _, ty := range []int{impl.TyAddr, impl.TyServer, impl.TyAlias, impl.TyStart, impl.TyText, 0, 3, -1} {
			for _, at := range []int{0, 1, 4, 500, len(b) - 1, len(b), len(b) + 1, -1, math.MaxInt, math.MinInt} {
				wantNoData(t, b, at, n, ty, impl.WiForm)
				wantNoData(t, nil, at, n, ty, impl.WiForm)
			}
		}
	}
	// With 255 bytes, the next reason decides.
	for _, ty := range append(recordTypes(), noTypes()...) {
		wantNoData(t, b, len(b)-254, 255, ty, impl.WiShort)
		wantNoData(t, b[:254], 0, 255, ty, impl.WiShort)
		wantNoData(t, b[:255], 0, 255, ty, impl.WiForm)
		wantNoData(t, b, -1, 255, ty, impl.WiShort)
		bad := append([]byte("\xc0\x00"), b...)
		for n, code := range map[int]int{255: impl.WiJump, 256: impl.WiForm, -1: impl.WiForm} {
			if hasHost(ty) {
				wantNoData(t, bad, 0, n, ty, code)
			}
		}
	}
}

// No data at all are a name that is missing, or data of a wrong form.
func TestNoDataBytes(t *testing.T) {
	for _, b := range [][]byte{nil, {}, {9}, {0, 0, 0, 0, 0}, []byte("\x03com\x00")} {
		for _, ty := range append(recordTypes(), noTypes()...) {
			code := impl.WiForm
			if hasHost(ty) {
				code = impl.WiShort
			}
			wantNoData(t, b, len(b), 0, ty, code)
			for _, at := range []int{len(b) + 1, len(b) + 2, math.MaxInt, -1, -2, math.MinInt} {
				wantNoData(t, b, at, 0, ty, impl.WiShort)
			}
		}
	}
	zeros := make([]byte, 9)
	for at := range zeros {
		for _, ty := range append(recordTypes(), noTypes()...) {
			wantNoData(t, zeros, at, 0, ty, impl.WiForm)
		}
	}
	for _, ty := range recordTypes() {
		code := impl.WiForm
		if hasHost(ty) {
			code = impl.WiShort
		}
		wantNoRecord(t, plainRecord("\x03com\x00", ty, ""), 0, code)
		wantNoRecord(t, append(plainRecord("\x03com\x00", ty, ""), 0, 0, 0, 0, 0), 0, impl.WiForm)
	}
}

// The data may end with b; one byte beyond it they are too short, also where
// that byte stands in the spare capacity.
func TestDataAtTheEndOfTheBytes(t *testing.T) {
	for _, r := range codedRecords() {
		data := modelData(r)
		for _, front := range []string{"", "\x09", "\x03com\x00"} {
			at := len(front)
			b := slices.Concat([]byte(front), data)
			wantData(t, b, at, len(data), r.Type, bare(r), impl.WiGood)
			wantNoData(t, b, at, len(data)+1, r.Type, impl.WiShort)
			wantNoData(t, b, at+1, len(data), r.Type, impl.WiShort)
			for length := at; length < len(b); length++ {
				wantNoData(t, b[:length], at, len(data), r.Type, impl.WiShort)
			}
			whole := impl.PutRecord([]byte(front), r)
			wantRecord(t, append(whole, 7)[:len(whole)], at, recordAt{r, len(whole), impl.WiGood})
			wantNoRecord(t, whole[:len(whole)-1], at, impl.WiShort)
		}
	}
}

func TestDataOutsideTheBytes(t *testing.T) {
	b := make([]byte, 20)
	for _, ty := range append(recordTypes(), noTypes()...) {
		for _, n := range []int{1, 4, 5, 255} {
			for _, at := range []int{
				-1, -2, -4, -20, math.MinInt, math.MinInt + 1, math.MinInt + 4, -1 << 32,
				len(b), len(b) - n + 1, len(b) + 1, len(b) + 255, 1 << 32, math.MaxInt, math.MaxInt - 1, math.MaxInt - 4, math.MaxInt - 255,
			} {
				wantNoData(t, b, at, n, ty, impl.WiShort)
				wantNoData(t, nil, at, n, ty, impl.WiShort)
			}
		}
	}
}

func TestTextsOfEveryLength(t *testing.T) {
	for size := range 300 {
		text := strings.Repeat("x", size)
		b := append([]byte{byte(size)}, text...)
		if size <= impl.MaxLabel {
			wantData(t, b, 0, size+1, impl.TyText, impl.Record{Type: impl.TyText, Text: text}, impl.WiGood)
			wantRecord(t, plainRecord("\x01a\x00", impl.TyText, string(b)), 0, recordAt{impl.Record{Name: "a", Type: impl.TyText, Ttl: 60, Text: text}, 13 + size + 1, impl.WiGood})
		} else {
			wantNoData(t, b, 0, size+1, impl.TyText, impl.WiForm)
			wantNoRecord(t, plainRecord("\x01a\x00", impl.TyText, string(b)), 0, impl.WiForm)
		}
	}
}

// The length byte of a text and the n bytes must agree, whatever surrounds them.
func TestLengthByteOfTexts(t *testing.T) {
	for first := range 256 {
		for n := range 40 {
			for _, spare := range []int{0, 1, 300} {
				b := append([]byte{byte(first)}, bytes.Repeat([]byte{'x'}, n+spare)...)
				if n > 0 && first == n-1 && first <= impl.MaxLabel {
					wantData(t, b, 0, n, impl.TyText, impl.Record{Type: impl.TyText, Text: strings.Repeat("x", first)}, impl.WiGood)
				} else {
					wantNoData(t, b, 0, n, impl.TyText, impl.WiForm)
				}
			}
		}
	}
}

func TestTextsOfEveryByte(t *testing.T) {
	for size := 1; size <= impl.MaxLabel; size++ {
		for at := range size {
			for c := range 256 {
				text := []byte(strings.Repeat("x", size))
				text[at] = byte(c)
				b := append([]byte{byte(size)}, text...)
				if 33 <= c && c <= 126 {
					wantData(t, b, 0, size+1, impl.TyText, impl.Record{Type: impl.TyText, Text: string(text)}, impl.WiGood)
				} else {
					wantNoData(t, b, 0, size+1, impl.TyText, impl.WiForm)
					wantNoRecord(t, plainRecord("\x01a\x00", impl.TyText, string(b)), 0, impl.WiForm)
				}
			}
		}
	}
}

// Four bytes can hold numbers that no record has.
func TestNumbersInData(t *testing.T) {
	for _, n := range []int{0, 1, 255, 256, impl.MaxTtl - 1, impl.MaxTtl, impl.MaxTtl + 1, 1 << 24, impl.MaxFour - 1, impl.MaxFour, impl.MaxFour + 1, 1<<32 - 1} {
		addr, start := string(four(n)), "\x01a\x00"+string(four(n))
		if n <= impl.MaxFour {
			wantData(t, []byte(addr), 0, 4, impl.TyAddr, impl.Record{Type: impl.TyAddr, N: n}, impl.WiGood)
		} else {
			wantNoData(t, []byte(addr), 0, 4, impl.TyAddr, impl.WiForm)
			wantNoRecord(t, plainRecord("\x00", impl.TyAddr, addr), 0, impl.WiForm)
		}
		if n <= impl.MaxTtl {
			wantData(t, []byte(start), 0, 7, impl.TyStart, impl.Record{Type: impl.TyStart, Host: "a", N: n}, impl.WiGood)
		} else {
			wantNoData(t, []byte(start), 0, 7, impl.TyStart, impl.WiForm)
			wantNoRecord(t, plainRecord("\x00", impl.TyStart, start), 0, impl.WiForm)
		}
	}
}

func TestDataOfNoType(t *testing.T) {
	for _, ty := range noTypes() {
		for _, data := range []string{"\x00", "\x00\x00\x00\x00", "\x01a\x00", "\x01a\x00\x00\x00\x00\x00", "\x02hi", "\xff", "\xc0\x00", "\x0d"} {
			wantNoData(t, []byte(data), 0, len(data), ty, impl.WiForm)
			wantNoData(t, []byte(data), 0, len(data)+1, ty, impl.WiShort)
			if 0 <= ty && ty <= impl.MaxTwo {
				wantNoRecord(t, plainRecord("\x01a\x00", ty, data), 0, impl.WiForm)
			}
		}
	}
}

// The code of GetName is that for a name which may read beyond the n bytes.
func TestNamesInDataThatFail(t *testing.T) {
	for _, c := range []struct {
		data string
		code int
	}{
		{"\x0d", impl.WiForm}, {"\xbf", impl.WiForm}, {"\x01?", impl.WiForm}, {"\x02a b", impl.WiForm}, {"\x01a\x0d", impl.WiForm},
		{"\x01", impl.WiShort}, {"\x03ab", impl.WiShort}, {"\x02ab", impl.WiShort}, {"\xc0", impl.WiShort}, {"\x01a\xc0", impl.WiShort},
		{"\xc0\xff", impl.WiJump}, {"\x01a\xff\xff", impl.WiJump},
		{"\x01a\x01b\x01c\x01d\x01e\x01f\x01g\x00", impl.WiLong}, {"\x01a\x01b\x01c\x01d\x01e\x01f\x01g", impl.WiLong}, {string(plain(fiftyOneBytes)), impl.WiLong},
	} {
		for _, ty := range []int{impl.TyServer, impl.TyAlias, impl.TyStart} {
			for _, front := range []string{"", "\x00", "\x03com\x00"} {
				b := []byte(front + c.data)
				for n := range len(c.data) + 1 {
					wantNoData(t, b, len(front), n, ty, c.code)
				}
				wantNoData(t, b, len(front), len(c.data)+1, ty, impl.WiShort)
				wantNoData(t, b, len(front), 256, ty, impl.WiForm)
				wantNoData(t, b, len(front), -1, ty, impl.WiForm)
			}
			wantNoRecord(t, plainRecord("\x01a\x00", ty, c.data), 0, c.code)
		}
		for _, ty := range []int{0, 3, 4, 7, 15, 17} {
			wantNoData(t, []byte(c.data), 0, len(c.data), ty, impl.WiForm)
		}
	}
	// A name that ends behind the n bytes is read to its end and does not fit.
	for n := range 5 {
		wantNoData(t, []byte("\x03com\x00\x00\x00\x00\x00"), 0, n, impl.TyServer, impl.WiForm)
		wantNoData(t, []byte("\x03com\x00\x00\x00\x00\x00"), 0, n+4, impl.TyStart, impl.WiForm)
	}
	// The number of a start record would stand beyond b, or beyond the n bytes.
	for n := 5; n < 9; n++ {
		wantNoData(t, []byte("\x03com\x00\x00\x00\x00")[:n], 0, n, impl.TyStart, impl.WiForm)
		wantNoData(t, []byte("\x03com\x00\x00\x00\x00\x00\x00"), 0, n, impl.TyStart, impl.WiForm)
	}
}

// Fewer bytes than an address has are within b, but four are not.
func TestAddressBeyondTheBytes(t *testing.T) {
	for n := range 4 {
		b := make([]byte, 10)
		wantNoData(t, b, 10-n, n, impl.TyAddr, impl.WiForm)
		wantNoData(t, b[:5], 5-n, n, impl.TyAddr, impl.WiForm)
		wantNoData(t, b, 10-n, 4, impl.TyAddr, impl.WiShort)
	}
}

func TestRecordsOfEveryClass(t *testing.T) {
	for class := range 1 << 16 {
		b := rawRecord([]byte("\x01a\x00"), impl.TyAddr, class, 60, 4, []byte{0, 0, 0, 7})
		_, _, code := impl.GetRecord(b, 0)
		if (code == impl.WiGood) != (class == 1) || class != 1 && code != impl.WiForm {
			t.Errorf("a record of the class %d has the code %d", class, code)
		}
	}
	for _, r := range oneOfEach("ex.com") {
		for _, class := range []int{0, 2, 255, 256, 257, 65535} {
			data := modelData(r)
			wantNoRecord(t, rawRecord(plain(r.Name), r.Type, class, r.Ttl, len(data), data), 0, impl.WiForm)
		}
	}
}

func TestRecordsOfEveryTtl(t *testing.T) {
	for _, r := range append(oneOfEach("ex.com"), oneOfEach("")...) {
		data := modelData(r)
		for _, ttl := range []int{0, 1, 255, 256, 65536, impl.MaxTtl - 1, impl.MaxTtl, impl.MaxTtl + 1, 1 << 24, impl.MaxFour, impl.MaxFour + 1, 1<<31 + 60, 1<<32 - 1} {
			b := rawRecord(plain(r.Name), r.Type, 1, ttl, len(data), data)
			r.Ttl = ttl
			want := recordAt{r, len(b), impl.WiGood}
			if ttl > impl.MaxTtl {
				want = recordAt{code: impl.WiForm}
			}
			wantRecord(t, b, 0, want)
		}
	}
}

// Every prefix of a record is too short, wherever it ends.
func TestTruncatedRecords(t *testing.T) {
	for _, front := range []string{"", "\x02ex\x03com\x00", "\x00\x00"} {
		for _, r := range codedRecords() {
			whole := impl.PutRecord([]byte(front), r)
			for length := len(front); length < len(whole); length++ {
				wantNoRecord(t, whole[:length], len(front), impl.WiShort)
				wantNoRecord(t, slices.Clip(whole[:length]), len(front), impl.WiShort)
			}
		}
	}
}

// Less than ten bytes after the name are too short, whatever they are.
func TestFewerThanTenBytesAfterTheName(t *testing.T) {
	for _, name := range []string{"\x00", "\x03com\x00", string(plain(fiftyBytes))} {
		for _, fill := range []byte{0, 1, 13, 192, 255} {
			for size := range 13 {
				b := append([]byte(name), bytes.Repeat([]byte{fill}, size)...)
				code := impl.WiForm
				if size < 10 {
					code = impl.WiShort
				}
				wantNoRecord(t, b, 0, code)
			}
		}
		b := rawRecord([]byte(name), impl.TyText, 1, 0, 1, []byte{0})
		wantNoRecord(t, b[:len(name)+9], 0, impl.WiShort)
		wantNoRecord(t, b[:len(name)+10], 0, impl.WiShort)
		if _, next, code := impl.GetRecord(b, 0); next != len(name)+11 || code != impl.WiGood {
			t.Error(next, code)
		}
	}
}

func TestRecordsOutsideTheBytes(t *testing.T) {
	whole := impl.PutRecord(nil, oneOfEach("ex.com")[0])
	for _, b := range [][]byte{nil, {}, {9}, make([]byte, 40), whole} {
		for _, at := range []int{
			len(b), len(b) + 1, len(b) + 10, 1 << 32, math.MaxInt, math.MaxInt - 1, math.MaxInt - 10,
			-1, -2, -10, -len(whole), math.MinInt, math.MinInt + 1,
		} {
			wantNoRecord(t, b, at, impl.WiShort)
			for k := 1; k <= impl.MaxList; k++ {
				wantRecords(t, b, at, k, nil, 0, impl.WiShort)
			}
		}
	}
}

func TestNamesOfRecordsThatFail(t *testing.T) {
	rest := string(rawRecord(nil, 3, 2, impl.MaxTtl+1, 300, nil))
	for name, code := range map[string]int{
		"\x0d": impl.WiForm, "\x01?\x00": impl.WiForm, "\xc0\x05": impl.WiJump, "\x01a\xff\xff": impl.WiJump,
		"\x01a\x01b\x01c\x01d\x01e\x01f\x01g\x00": impl.WiLong, string(plain(fiftyOneInSix)): impl.WiLong,
	} {
		wantNoRecord(t, []byte(name+rest), 0, code)
		wantNoRecord(t, []byte(name), 0, code)
		wantNoRecord(t, plainRecord(name, impl.TyText, "\x02hi"), 0, code)
	}
	for _, name := range []string{"", "\x01", "\x03co", "\x03com", "\xc0", "\x01a\xc0"} {
		wantNoRecord(t, []byte(name), 0, impl.WiShort)
	}
}

// Where several reasons apply, the first one decides.
func TestOrderOfCodesOfRecords(t *testing.T) {
	const name = "\x01a\x00"
	for _, c := range []struct {
		ty, class, ttl, size int
		data                 string
		code                 int
	}{
		{impl.TyAddr, 1, 60, 4, "\x00\x00\x00\x01", impl.WiGood},
		{impl.TyAddr, 2, 60, 5, "\x00\x00\x00\x01", impl.WiShort},
		{impl.TyAddr, 1, 1<<32 - 1, 5, "\x00\x00\x00\x01", impl.WiShort},
		{3, 2, impl.MaxTtl + 1, 5, "\x00\x00\x00\x01", impl.WiShort},
		{3, 2, impl.MaxTtl + 1, 4, "\x00\x00\x00\x01", impl.WiForm},
		{3, 1, 60, 1, "", impl.WiShort},
		{impl.TyAddr, 1, 60, 256, "", impl.WiForm},
		{impl.TyAddr, 1, 60, 255, "", impl.WiShort},
		{impl.TyServer, 1, 60, 65535, "\xc0\x0d", impl.WiForm},
		{impl.TyServer, 1, 60, 2, "\xc0\x0d", impl.WiJump},
		{impl.TyServer, 2, 60, 2, "\xc0\x0d", impl.WiJump},
		{impl.TyServer, 0, 1<<32 - 1, 2, "\xc0\x0d", impl.WiJump},
		{impl.TyAlias, 2, impl.MaxTtl + 1, 1, "\x02", impl.WiShort},
		{impl.TyAlias, 2, 60, 14, "\x01a\x01b\x01c\x01d\x01e\x01f\x01g", impl.WiLong},
		{impl.TyAlias, 1, impl.MaxFour + 1, 14, "\x01a\x01b\x01c\x01d\x01e\x01f\x01g", impl.WiLong},
		{impl.TyStart, 2, 60, 3, "\xc0\x0d\x00", impl.WiJump},
		{impl.TyStart, 2, 60, 2, "\xc0\x00", impl.WiForm},
		{3, 1, 60, 2, "\xc0\x0d", impl.WiForm},
	} {
		b := rawRecord([]byte(name), c.ty, c.class, c.ttl, c.size, []byte(c.data))
		if _, _, code := impl.GetRecord(b, 0); code != c.code {
			t.Errorf("GetRecord(%q) has the code %d, want %d", b, code, c.code)
		}
		if r, next, code := impl.GetRecord(b, 0); code != impl.WiGood && (r != impl.Record{} || next != 0) {
			t.Errorf("GetRecord(%q) = %#v %d %d", b, r, next, code)
		}
		if l, next, code := impl.GetRecords(b, 0, 1); code != c.code || code != impl.WiGood && (len(l) != 0 || next != 0) {
			t.Errorf("GetRecords(%q) = %v %d %d", b, l, next, code)
		}
	}
}

func TestPutOfInvalidRecordsReturnsSameBytes(t *testing.T) {
	good := oneOfEach("ex.com")[0]
	for _, r := range badRecords() {
		if got := impl.PutData(r); len(got) != 0 {
			t.Errorf("PutData(%s) = %q", brief(r), got)
		}
		for _, front := range [][]byte{nil, {}, {9}, []byte("\x02ex\x03com\x00")} {
			if got := impl.PutRecord(front, r); !bytes.Equal(got, front) {
				t.Errorf("PutRecord(%q, %s) = %q", front, brief(r), got)
			}
			if got := impl.PutRecords(front, []impl.Record{r, r}); !bytes.Equal(got, front) {
				t.Errorf("PutRecords(%q, twice %s) = %q", front, brief(r), got)
			}
			want := modelRecord(front, good)
			if got := impl.PutRecords(front, []impl.Record{r, good, r}); !bytes.Equal(got, want) {
				t.Errorf("PutRecords(%q, one record between two of %s) = %q, want %q", front, brief(r), got, want)
			}
		}
	}
}

func TestGetRecordsNumberOutOfRange(t *testing.T) {
	l := slices.Repeat([]impl.Record{oneOfEach("ex.com")[0]}, 20)
	b := impl.PutRecords(nil, l)
	for _, k := range append(outOfRange(impl.MaxList), impl.MaxList+1, 16, 20, 256, 264) {
		for _, at := range []int{0, 1, len(b), len(b) + 1, -1, math.MaxInt, math.MinInt} {
			wantRecords(t, b, at, k, nil, 0, impl.WiForm)
			wantRecords(t, nil, at, k, nil, 0, impl.WiForm)
		}
	}
	for k := range impl.MaxList + 1 {
		wantRecords(t, b, 0, k, l[:k], len(impl.PutRecords(nil, l[:k])), impl.WiGood)
	}
}

// No records end where they start, wherever that is.
func TestGetRecordsOfNone(t *testing.T) {
	for _, b := range [][]byte{nil, {}, {9}, {0, 0, 0}, bytes.Repeat([]byte{255}, 40)} {
		for _, at := range []int{0, 1, 2, len(b), len(b) + 1, 1 << 32, math.MaxInt, -1, math.MinInt} {
			wantRecords(t, b, at, 0, nil, at, impl.WiGood)
		}
	}
}

// The first record that cannot be decoded decides, and nothing is returned of those before it.
func TestGetRecordsOfBadRecords(t *testing.T) {
	good := plainRecord("\x01a\x00", impl.TyText, "\x02hi")
	r := impl.Record{Name: "a", Type: impl.TyText, Ttl: 60, Text: "hi"}
	bad := map[int][]byte{
		impl.WiShort: {}, impl.WiForm: plainRecord("\x01a\x00", 3, "\x00"), impl.WiJump: {255, 255}, impl.WiLong: plain(fiftyOneBytes),
	}
	for code, tail := range bad {
		for before := range impl.MaxList {
			b := append(bytes.Repeat(good, before), tail...)
			wantRecords(t, b, 0, before, slices.Repeat([]impl.Record{r}, before), before*len(good), impl.WiGood)
			for k := before + 1; k <= impl.MaxList; k++ {
				wantRecords(t, b, 0, k, nil, 0, code)
			}
			wantRecords(t, b, 0, impl.MaxList+1, nil, 0, impl.WiForm)
		}
	}
	b := slices.Concat(good, bad[impl.WiJump], bad[impl.WiLong], good)
	wantRecords(t, b, 0, 4, nil, 0, impl.WiJump)
	wantRecords(t, b, len(good)+2, 4, nil, 0, impl.WiLong)
}

// checkDecoding fails if what is decoded at some offset is not what the model
// decodes, or is not a valid record. It returns the code.
func checkDecoding(t *testing.T, b []byte, at int) int {
	t.Helper()
	want := modelGetRecord(b, at)
	wantRecord(t, b, at, want)
	if want.code == impl.WiGood && !impl.RecordOk(want.r) {
		t.Errorf("the record %#v of %q is invalid", want.r, b)
	}
	for _, ty := range append(recordTypes(), 0, 3) {
		for _, n := range []int{-1, 0, 1, 2, 4, 5, 7, 13, 14, 255, 256} {
			r, code := modelGetData(b, at, n, ty)
			wantData(t, b, at, n, ty, r, code)
			if code == impl.WiGood && !impl.RecordOk(r) {
				t.Errorf("the record %#v of %q is invalid", r, b)
			}
		}
	}
	return want.code
}

// Promise 6 and its opposite: one byte of a record is replaced by all others.
func TestRecordsWithOneByteReplaced(t *testing.T) {
	for _, front := range []string{"", "\x02ex\x03com\x00"} {
		for _, r := range append(oneOfEach("www.ex.com"), oneOfEach("")...) {
			b := impl.PutRecord([]byte(front), r)
			for at := range b {
				for c := range 256 {
					changed := bytes.Clone(b)
					changed[at] = byte(c)
					wantRecord(t, changed, len(front), modelGetRecord(changed, len(front)))
				}
			}
		}
	}
}

// scrambled returns bytes that begin like records at the offsets that it
// returns as well. Some parts of them are wrong, changed or missing.
func scrambled(next func(n int) int, all []impl.Record, names []string) ([]byte, []int) {
	b, starts := []byte{}, []int{}
	for range 1 + next(5) {
		starts = append(starts, len(b))
		name := plain(names[next(len(names))])
		if next(2) == 0 {
			name = slices.Concat(bytes.Repeat([]byte("\x01a"), next(8)), pointer(next(len(b)+3)))
		}
		r := all[next(len(all))]
		data := modelData(r)
		if hasHost(r.Type) && next(2) == 0 {
			data = append(pointer(next(len(b)+20)), data[len(plain(r.Host)):]...)
		}
		class, size, ty := 1, len(data), r.Type
		switch next(12) {
		case 0:
			class = next(3)
		case 1:
			size += next(3) - 1
		case 2:
			ty = next(18)
		}
		b = append(b, rawRecord(name, ty, class, next(impl.MaxTtl+9000), size, data)...)
	}
	for range next(3) {
		b[next(len(b))] = byte(next(256))
	}
	if next(8) == 0 {
		b = b[:next(len(b))]
	}
	return b, starts
}

// Whatever the bytes, the program decodes as the model does.
func TestManyEncodingsOfRecords(t *testing.T) {
	next := draws(3)
	all, names := codedRecords(), someNames()
	codes := map[int]int{}
	for range 3000 {
		b, starts := scrambled(next, all, names)
		for _, at := range append(starts, -1, next(len(b)+1), len(b)) {
			codes[checkDecoding(t, b, at)]++
		}
		if t.Failed() {
			t.FailNow()
		}
	}
	for code := impl.WiGood; code <= impl.WiLong; code++ {
		if codes[code] < 100 {
			t.Errorf("only %d records with the code %d", codes[code], code)
		}
	}
}

// All short sequences of bytes that matter as data of every type.
func TestAllShortData(t *testing.T) {
	for _, s := range allStrings("\x00\x01\x02a!\xc0", 5) {
		b := []byte("\x01b\x00" + s)
		for n := range len(s) + 2 {
			for _, ty := range append(recordTypes(), 0, 3) {
				r, code := modelGetData(b, 3, n, ty)
				if got, c := impl.GetData(b, 3, n, ty); got != r || c != code {
					t.Fatalf("GetData(%q, 3, %d, %d) = %#v %d, want %#v %d", b, n, ty, got, c, r, code)
				}
			}
		}
	}
}

func TestPutRecordsSharesNoMemory(t *testing.T) {
	bad := impl.Record{Name: "A", Type: impl.TyAddr}
	for _, name := range []string{"", "ex.com", "www.ex.com"} {
		l := append(oneOfEach(name), bad)
		for _, r := range l {
			put := func(b []byte) []byte { return impl.PutRecord(b, r) }
			checkFresh(t, "PutRecord", put)
			checkFreshAfter(t, "PutRecord with a pointer", []byte("\x02ex\x03com\x00"), put)
		}
		for k := range len(l) + 1 {
			for _, list := range [][]impl.Record{l[:k], l[len(l)-k:]} {
				put := func(b []byte) []byte { return impl.PutRecords(b, list) }
				checkFresh(t, "PutRecords", put)
				checkFreshAfter(t, "PutRecords with a pointer", []byte("\x02ex\x03com\x00"), put)
			}
		}
		if !slices.Equal(l, append(oneOfEach(name), bad)) {
			t.Errorf("PutRecords changed its argument: %v", l)
		}
	}
	checkFresh(t, "PutRecords of nil", func(b []byte) []byte { return impl.PutRecords(b, nil) })
}

func TestPutDataSharesNoMemory(t *testing.T) {
	for _, r := range append(codedRecords(), impl.Record{}) {
		out, other := impl.PutData(r), impl.PutData(r)
		want := bytes.Clone(other)
		fill(out[:cap(out)], 5)
		if !bytes.Equal(other, want) || !bytes.Equal(impl.PutData(r), want) {
			t.Errorf("two results of PutData(%#v) share memory", r)
		}
	}
}

func TestDecodingRecordsChangesNothing(t *testing.T) {
	l := append(oneOfEach("ex.com"), oneOfEach("www.ex.com")[:3]...)
	whole := append(impl.PutRecords([]byte("\x02Ex\x03CoM\x00"), l), bytes.Repeat([]byte{77}, 20)...)
	before := bytes.Clone(whole)
	for length := range len(whole) + 1 {
		for at := -1; at <= length; at++ {
			impl.GetRecord(whole[:length], at)
			impl.GetRecords(whole[:length], at, 2)
			impl.GetData(whole[:length], at, 4, impl.TyAddr)
			impl.GetData(whole[:length], at, 8, impl.TyServer)
			impl.GetData(whole[:length], at, 3, impl.TyText)
		}
	}
	if !bytes.Equal(whole, before) {
		t.Errorf("the argument was changed: %q", whole)
	}
	got, _, _ := impl.GetRecords(whole, 8, len(l))
	other, _, _ := impl.GetRecords(whole, 8, len(l))
	fillRecords(got[:cap(got)], "x")
	fill(whole, 'x')
	if !slices.Equal(other, l) {
		t.Errorf("the records share memory with the bytes or with other records: %v", other)
	}
}

// What lies in the spare capacity is not part of a record.
func TestRecordsIgnoreSpareCapacity(t *testing.T) {
	r := oneOfEach("ex.com")[3]
	whole := impl.PutRecords(nil, []impl.Record{r, r})
	one := len(impl.PutRecord(nil, r))
	wantRecord(t, whole[:one], 0, recordAt{r, one, impl.WiGood})
	for length := range one {
		wantNoRecord(t, whole[:length], 0, impl.WiShort)
	}
	wantRecords(t, whole[:one], 0, 1, []impl.Record{r}, one, impl.WiGood)
	wantRecords(t, whole[:one], 0, 2, nil, 0, impl.WiShort)
	wantRecords(t, whole[:one], one, 0, nil, one, impl.WiGood)
	if got := impl.PutRecord(whole[:one], r); !bytes.Equal(got, whole) {
		t.Errorf("PutRecord = %q, want %q", got, whole)
	}
	list := []impl.Record{r, {Name: "com", Type: impl.TyAddr}}
	if got := impl.PutRecords(nil, list[:1]); !bytes.Equal(got, whole[:one]) {
		t.Errorf("PutRecords of one record = %q", got)
	}
}

func TestNilAndEmptyAreTheSame(t *testing.T) {
	for _, r := range append(oneOfEach("ex.com"), impl.Record{}) {
		if a, b := impl.PutRecord(nil, r), impl.PutRecord([]byte{}, r); !bytes.Equal(a, b) {
			t.Errorf("%q and %q", a, b)
		}
	}
	for _, b := range [][]byte{nil, {}} {
		for _, l := range [][]impl.Record{nil, {}} {
			if got := impl.PutRecords(b, l); len(got) != 0 {
				t.Errorf("PutRecords of nothing = %q", got)
			}
		}
		wantNoRecord(t, b, 0, impl.WiShort)
		wantRecords(t, b, 0, 0, nil, 0, impl.WiGood)
		wantRecords(t, b, 0, 1, nil, 0, impl.WiShort)
		wantNoData(t, b, 0, 0, impl.TyText, impl.WiForm)
	}
}
