package tests

import (
	"bytes"
	"encoding/binary"
	"math"
	"slices"
	"strings"
	"testing"

	"loop.example/g00497/impl"
)

const (
	headBytes = 12
	maxMsg    = 512
)

// questAt is what decoding a question at some offset yields.
type questAt struct {
	q    impl.Quest
	next int
	code int
}

// modelHead encodes a header without the program, as numbers of two bytes each.
func modelHead(m impl.Msg) []byte {
	flags := (m.Code%16 + 16) % 16
	for i, set := range []bool{m.Can, m.Want, m.Cut, m.Auth, false, false, false, false, m.Reply} {
		if set {
			flags += 128 << i
		}
	}
	out := []byte{}
	for _, n := range []int{m.Id, flags, 1, len(m.An), len(m.Au), len(m.Ad)} {
		if n >= 0 && n <= 65535 {
			out = append(out, two(n)...)
		}
	}
	return out
}

// modelPacket encodes a message without the program, also one that is too long.
func modelPacket(m impl.Msg) []byte {
	out := slices.Concat(modelPut(modelHead(m), m.Q.Name), two(m.Q.Type), two(1))
	for _, r := range slices.Concat(m.An, m.Au, m.Ad) {
		out = modelRecord(out, r)
	}
	return out
}

func modelGetQuest(b []byte, at int) questAt {
	name := model(b, at)
	if name.code != impl.WiGood {
		return questAt{code: name.code}
	}
	rest := b[name.next:]
	if len(rest) < 4 {
		return questAt{code: impl.WiShort}
	}
	if rest[0] != 0 || !slices.Contains(recordTypes(), int(rest[1])) || rest[2] != 0 || rest[3] != 1 {
		return questAt{code: impl.WiForm}
	}
	return questAt{impl.Quest{Name: name.name, Type: int(rest[1])}, name.next + 4, impl.WiGood}
}

// modelFlags has the Id, the flags and the code of a header of twelve bytes.
func modelFlags(b []byte) (impl.Msg, bool) {
	on := func(n int) bool { return b[2+n/8]>>(7-n%8)&1 == 1 }
	for _, n := range []int{1, 2, 3, 4, 9, 10, 11} {
		if on(n) {
			return impl.Msg{}, false
		}
	}
	m := impl.Msg{Id: int(b[0])*256 + int(b[1]), Reply: on(0), Auth: on(5), Cut: on(6), Want: on(7), Can: on(8), Code: int(b[3] % 16)}
	return m, true
}

// modelGetMsg decodes a message without the program.
func modelGetMsg(b []byte) (impl.Msg, bool) {
	none := impl.Msg{}
	if len(b) < 12 || len(b) > 512 || b[4] != 0 || b[5] != 1 {
		return none, false
	}
	m, ok := modelFlags(b)
	quest := modelGetQuest(b, 12)
	if !ok || quest.code != impl.WiGood {
		return none, false
	}
	m.Q = quest.q
	at := quest.next
	for section, l := range sectionsIn(&m) {
		k := int(binary.BigEndian.Uint16(b[6+2*section:]))
		if k > 8 {
			return none, false
		}
		for range k {
			got := modelGetRecord(b, at)
			if got.code != impl.WiGood {
				return none, false
			}
			*l, at = append(*l, got.r), got.next
		}
	}
	if at != len(b) {
		return none, false
	}
	return m, true
}

func wantDecoded(t *testing.T, b []byte, want impl.Msg) {
	t.Helper()
	got, ok := impl.GetMsg(b)
	if !ok || !modelSame(got, want) {
		t.Errorf("GetMsg(%.300q) = %s %v, want %s", b, brief(got), ok, brief(want))
	}
}

func wantRejected(t *testing.T, b []byte) {
	t.Helper()
	got, ok := impl.GetMsg(b)
	if ok || !modelSame(got, impl.Msg{}) {
		t.Errorf("GetMsg(%.300q) = %s %v, want nothing", b, brief(got), ok)
	}
}

// wantModel fails if the message in b is not what the model decodes. What is
// decoded is valid, and is decoded again from its own encoding, if that fits.
func wantModel(t *testing.T, b []byte) bool {
	t.Helper()
	want, ok := modelGetMsg(b)
	if !ok {
		wantRejected(t, b)
		return false
	}
	wantDecoded(t, b, want)
	got, _ := impl.GetMsg(b)
	if !impl.MsgOk(got) {
		t.Errorf("the message %s of %.300q is invalid", brief(got), b)
	}
	if again := impl.PutMsg(got); len(again) > 0 {
		wantDecoded(t, again, want)
	}
	return true
}

// wantEncoded fails if PutMsg, SizeOf and Fits do not tell that these bytes are
// the encoding of m, or with no bytes, that there is none.
func wantEncoded(t *testing.T, m impl.Msg, b []byte) {
	t.Helper()
	if got := impl.PutMsg(m); !bytes.Equal(got, b) {
		t.Errorf("PutMsg(%s) = %.600q, want %.600q", brief(m), got, b)
	}
	if size, fits := impl.SizeOf(m), impl.Fits(m); size != len(b) || fits != (len(b) > 0) {
		t.Errorf("SizeOf and Fits of %s = %d %v, want %d", brief(m), size, fits, len(b))
	}
}

func wantHead(t *testing.T, b []byte, want impl.Msg, counts [3]int) {
	t.Helper()
	m, an, au, ad, ok := impl.GetHead(b)
	if !ok || !modelSame(m, want) || counts != [3]int{an, au, ad} {
		t.Errorf("GetHead(%.40q) = %s %d %d %d %v, want %s %v", b, brief(m), an, au, ad, ok, brief(want), counts)
	}
}

func wantNoHead(t *testing.T, b []byte) {
	t.Helper()
	m, an, au, ad, ok := impl.GetHead(b)
	if ok || !modelSame(m, impl.Msg{}) || an != 0 || au != 0 || ad != 0 {
		t.Errorf("GetHead(%.40q) = %s %d %d %d %v, want nothing", b, brief(m), an, au, ad, ok)
	}
}

// wantModelHead fails if the header in b is not what the model decodes.
func wantModelHead(t *testing.T, b []byte) {
	t.Helper()
	if len(b) < 12 || b[4] != 0 || b[5] != 1 {
		wantNoHead(t, b)
		return
	}
	m, ok := modelFlags(b)
	if !ok {
		wantNoHead(t, b)
		return
	}
	wantHead(t, b, m, [3]int{int(b[6])*256 + int(b[7]), int(b[8])*256 + int(b[9]), int(b[10])*256 + int(b[11])})
}

func wantQuest(t *testing.T, b []byte, at int, want questAt) {
	t.Helper()
	q, next, code := impl.GetQuest(b, at)
	if (questAt{q, next, code}) != want {
		t.Errorf("GetQuest(%.300q, %d) = %#v %d %d, want %#v", b, at, q, next, code, want)
	}
}

func wantNoQuest(t *testing.T, b []byte, at int, code int) {
	t.Helper()
	wantQuest(t, b, at, questAt{code: code})
}

// headOf is m without its question and its records.
func headOf(m impl.Msg) impl.Msg {
	m.Q, m.An, m.Au, m.Ad = impl.Quest{}, nil, nil, nil
	return m
}

// sized is a valid message whose encoding has n bytes, from 32 to 619 of them.
// Texts fill it up: the record of a text has from 13 to 25 bytes.
func sized(n int) impl.Msg {
	m := impl.Msg{Id: 9, Reply: true, Q: impl.Quest{Name: "a", Type: impl.TyText}}
	rest := n - 19
	k := (rest + 24) / 25
	rest -= 13 * k
	for i := range k {
		l := sectionsIn(&m)[i/8]
		size := min(rest, 12)
		*l = append(*l, impl.Record{Name: "a", Type: impl.TyText, Ttl: i, Text: strings.Repeat("t", size)})
		rest -= size
	}
	return m
}

// someMsgs are valid and fit: few enough to be cut and changed at every byte.
func someMsgs() []impl.Msg {
	q := impl.Quest{Name: "www.ex.com", Type: impl.TyAddr}
	out := []impl.Msg{full(), impl.AskMsg(258, q), impl.AskMsg(0, impl.Quest{Type: impl.TyStart}), impl.AskMsg(353, impl.Quest{Name: "a", Type: impl.TyText})}
	for section := range sectionNames {
		for _, name := range []string{"", "www.ex.com", "org"} {
			out = append(out, with(impl.Msg{Id: 1, Reply: true, Code: section, Q: q}, section, oneOfEach(name)))
		}
		out = append(out, with(full(), section, records(impl.MaxList)))
	}
	return out
}

// crowdedMsgs have eight different records in each section. Many do not fit.
func crowdedMsgs() []impl.Msg {
	out := []impl.Msg{}
	all := codedRecords()
	for at := range len(all) - 24 {
		m := full()
		m.An, m.Au, m.Ad = all[at:at+8], all[at+8:at+16], all[at+16:at+24]
		out = append(out, m)
	}
	return out
}

func TestLimitOfMessages(t *testing.T) {
	if impl.MaxMsg != maxMsg {
		t.Error(impl.MaxMsg)
	}
}

func TestPutHeadExactBytes(t *testing.T) {
	q := impl.Quest{Name: "ex.com", Type: impl.TyAddr}
	for _, c := range []struct {
		m    impl.Msg
		head string
	}{
		{impl.Msg{}, "\x00\x00\x00\x00\x00\x01\x00\x00\x00\x00\x00\x00"},
		{impl.AskMsg(258, q), "\x01\x02\x00\x00\x00\x01\x00\x00\x00\x00\x00\x00"},
		{impl.Msg{Id: impl.MaxTwo}, "\xff\xff\x00\x00\x00\x01\x00\x00\x00\x00\x00\x00"},
		{impl.Msg{Reply: true}, "\x00\x00\x80\x00\x00\x01\x00\x00\x00\x00\x00\x00"},
		{impl.Msg{Auth: true}, "\x00\x00\x04\x00\x00\x01\x00\x00\x00\x00\x00\x00"},
		{impl.Msg{Cut: true}, "\x00\x00\x02\x00\x00\x01\x00\x00\x00\x00\x00\x00"},
		{impl.Msg{Want: true}, "\x00\x00\x01\x00\x00\x01\x00\x00\x00\x00\x00\x00"},
		{impl.Msg{Can: true}, "\x00\x00\x00\x80\x00\x01\x00\x00\x00\x00\x00\x00"},
		{impl.Msg{Code: 1}, "\x00\x00\x00\x01\x00\x01\x00\x00\x00\x00\x00\x00"},
		{impl.Msg{Code: 15, Can: true}, "\x00\x00\x00\x8f\x00\x01\x00\x00\x00\x00\x00\x00"},
		{impl.Msg{An: records(1)}, "\x00\x00\x00\x00\x00\x01\x00\x01\x00\x00\x00\x00"},
		{impl.Msg{Au: records(2)}, "\x00\x00\x00\x00\x00\x01\x00\x00\x00\x02\x00\x00"},
		{impl.Msg{Ad: records(259)}, "\x00\x00\x00\x00\x00\x01\x00\x00\x00\x00\x01\x03"},
		{with(full(), 1, records(8)), "\x00\x07\x87\x83\x00\x01\x00\x02\x00\x08\x00\x02"},
	} {
		if got := impl.PutHead(c.m); string(got) != c.head {
			t.Errorf("PutHead(%s) = %q, want %q", brief(c.m), got, c.head)
		}
	}
	for _, m := range append(goodMsgs(), badMsgs()...) {
		if got, want := impl.PutHead(m), modelHead(m); !bytes.Equal(got, want) {
			t.Errorf("PutHead(%s) = %q, want %q", brief(m), got, want)
		}
	}
}

// PutHead checks nothing: a number that Put2 rejects is left out, and a code
// counts with its low four bits only.
func TestPutHeadOfNumbersOutOfRange(t *testing.T) {
	const rest = "\x85\x8c\x00\x01\x00\x02\x00\x02\x00\x02"
	m := full()
	m.Cut, m.Code = false, 12
	for _, id := range outOfRange(impl.MaxTwo) {
		m.Id = id
		if got := impl.PutHead(m); string(got) != rest {
			t.Errorf("PutHead with the Id %d = %q", id, got)
		}
	}
	for code, low := range map[int]byte{
		-1: 15, -2: 14, -15: 1, -16: 0, -17: 15, -128: 0, -129: 15, 16: 0, 17: 1, 31: 15, 32: 0, 127: 15, 128: 0, 143: 15, 240: 0, 255: 15, 256: 0, 258: 2,
		1 << 32: 0, 1<<32 + 7: 7, math.MaxInt: 15, math.MinInt: 0, math.MinInt + 3: 3,
	} {
		want := []byte{0, 0, 0, low, 0, 1, 0, 0, 0, 0, 0, 0}
		if got := impl.PutHead(impl.Msg{Code: code}); !bytes.Equal(got, want) {
			t.Errorf("PutHead with the code %d = %q", code, got)
		}
		want[3] += 128
		if got := impl.PutHead(impl.Msg{Code: code, Can: true}); !bytes.Equal(got, want) {
			t.Errorf("PutHead with the code %d and Can = %q", code, got)
		}
	}
	many := make([]impl.Record, 2*impl.MaxTwo)
	for section := range sectionNames {
		for _, n := range []int{impl.MaxTwo - 1, impl.MaxTwo, impl.MaxTwo + 1, impl.MaxTwo + 2, 2 * impl.MaxTwo} {
			m := with(impl.Msg{Id: 3, An: records(4), Au: records(5), Ad: records(6)}, section, many[:n])
			if got, want := impl.PutHead(m), modelHead(m); !bytes.Equal(got, want) || (len(got) == 12) != (n <= impl.MaxTwo) {
				t.Errorf("PutHead with %d records in %s = %q, want %q", n, sectionNames[section], got, want)
			}
		}
	}
	all := impl.Msg{Id: -1, Want: true, An: many, Au: many, Ad: many}
	if got := impl.PutHead(all); string(got) != "\x01\x00\x00\x01" {
		t.Errorf("PutHead without numbers = %q", got)
	}
}

func TestGetHeadOfPutHead(t *testing.T) {
	for _, m := range goodMsgs() {
		b := impl.PutHead(m)
		counts := [3]int{len(m.An), len(m.Au), len(m.Ad)}
		wantHead(t, b, headOf(m), counts)
		wantHead(t, append(b, 255, 0, 1), headOf(m), counts)
	}
	for _, id := range valuesUpTo(impl.MaxTwo) {
		wantHead(t, impl.PutHead(impl.Msg{Id: id, Want: true}), impl.Msg{Id: id, Want: true}, [3]int{})
	}
}

func TestGetHeadOfEveryLength(t *testing.T) {
	whole := append([]byte("\x01\x02\x87\x83\x00\x01\x00\x03\x00\x04\x00\x05"), bytes.Repeat([]byte{255}, 70000)...)
	want := impl.Msg{Id: 258, Reply: true, Auth: true, Cut: true, Want: true, Can: true, Code: 3}
	for length := range 12 {
		wantNoHead(t, whole[:length])
		wantNoHead(t, whole[:length:length])
		wantNoHead(t, make([]byte, length))
	}
	for _, length := range []int{12, 13, 24, 511, 512, 513, 70012} {
		wantHead(t, whole[:length], want, [3]int{3, 4, 5})
	}
	wantHead(t, whole[:12:12], want, [3]int{3, 4, 5})
}

// Every other bit of the flag bytes makes the header invalid, each in its turn
// and with all the others.
func TestGetHeadOfEveryFlagByte(t *testing.T) {
	for flags := range 65536 {
		b := slices.Concat([]byte{1, 2}, two(flags), []byte{0, 1, 0, 3, 0, 4, 0, 5})
		if flags&0x7870 != 0 {
			wantNoHead(t, b)
			continue
		}
		wantHead(t, b, impl.Msg{
			Id: 258, Reply: flags&0x8000 != 0, Auth: flags&0x400 != 0, Cut: flags&0x200 != 0, Want: flags&0x100 != 0, Can: flags&0x80 != 0, Code: flags & 15,
		}, [3]int{3, 4, 5})
	}
}

func TestOtherFlagsInMessages(t *testing.T) {
	for _, m := range append(flagged(full()), flagged(impl.AskMsg(7, impl.Quest{Type: impl.TyAddr}))...) {
		b := impl.PutMsg(m)
		for bit := range 16 {
			changed := bytes.Clone(b)
			changed[2+bit/8] ^= 128 >> (bit % 8)
			if wantModel(t, changed) != slices.Contains([]int{0, 5, 6, 7, 8, 12, 13, 14, 15}, bit) {
				t.Errorf("bit %d of the flags of %q", bit, b)
			}
		}
	}
}

func TestGetHeadOfEveryNumberOfQuestions(t *testing.T) {
	for n := range 65536 {
		b := slices.Concat([]byte{0, 7, 0, 0}, two(n), make([]byte, 6))
		if n == 1 {
			wantHead(t, b, impl.Msg{Id: 7}, [3]int{})
		} else {
			wantNoHead(t, b)
		}
	}
}

// A message has one question, even if as many as stated are there.
func TestNumberOfQuestions(t *testing.T) {
	const quest = "\x01a\x00\x00\x01\x00\x01"
	for stated := range 4 {
		for there := range 4 {
			b := slices.Concat([]byte{0, 7, 0, 0}, two(stated), make([]byte, 6), []byte(strings.Repeat(quest, there)))
			if stated == 1 && there == 1 {
				wantDecoded(t, b, impl.AskMsg(7, impl.Quest{Name: "a", Type: impl.TyAddr}))
			} else {
				wantRejected(t, b)
			}
		}
	}
}

// The header states any numbers of records, also those that no message has.
func TestGetHeadOfEveryNumberOfRecords(t *testing.T) {
	for _, n := range append(valuesUpTo(impl.MaxTwo), 7, 8, 9, 10, 255, 256, 257) {
		for section := range sectionNames {
			counts := [3]int{1, 2, 3}
			counts[section] = n
			b := slices.Concat([]byte{0, 7, 128, 0, 0, 1}, two(counts[0]), two(counts[1]), two(counts[2]))
			wantHead(t, b, impl.Msg{Id: 7, Reply: true}, counts)
			wantRejected(t, b)
		}
	}
}

func TestPutMsgExactBytes(t *testing.T) {
	q := impl.Quest{Name: "ex.com", Type: impl.TyAddr}
	const zeros = "\x00\x00\x00\x00\x00\x00"
	for _, c := range []struct {
		m impl.Msg
		b string
	}{
		{impl.AskMsg(258, q), "\x01\x02\x00\x00\x00\x01" + zeros + "\x02ex\x03com\x00\x00\x01\x00\x01"},
		{impl.AskMsg(7, impl.Quest{Type: impl.TyText}), "\x00\x07\x00\x00\x00\x01" + zeros + "\x00\x00\x10\x00\x01"},
		{
			impl.Msg{Id: 1, Reply: true, Auth: true, Q: q, An: []impl.Record{{Name: "ex.com", Type: impl.TyAddr, Ttl: 5, N: 9}}},
			"\x00\x01\x84\x00\x00\x01\x00\x01\x00\x00\x00\x00\x02ex\x03com\x00\x00\x01\x00\x01\xc0\x0c\x00\x01\x00\x01\x00\x00\x00\x05\x00\x04\x00\x00\x00\x09",
		},
		{
			impl.Msg{
				Id: 1, Reply: true, Can: true, Code: 3, Q: q,
				Au: []impl.Record{{Name: "com", Type: impl.TyServer, Ttl: 2, Host: "ns.com"}},
				Ad: []impl.Record{{Name: "ns.com", Type: impl.TyText, Text: "hi"}, {Name: "www.ex.com", Type: impl.TyText}},
			},
			"\x00\x01\x80\x83\x00\x01\x00\x00\x00\x01\x00\x02\x02ex\x03com\x00\x00\x01\x00\x01" +
				"\xc0\x0f\x00\x02\x00\x01\x00\x00\x00\x02\x00\x08\x02ns\x03com\x00" +
				"\xc0\x24\x00\x10\x00\x01\x00\x00\x00\x00\x00\x03\x02hi" +
				"\x03www\xc0\x0c\x00\x10\x00\x01\x00\x00\x00\x00\x00\x01\x00",
		},
	} {
		wantEncoded(t, c.m, []byte(c.b))
		wantDecoded(t, []byte(c.b), c.m)
	}
}

// A name is searched for in the header too, which may look like one.
func TestNamesInTheHeader(t *testing.T) {
	for _, c := range []struct {
		m impl.Msg
		b string
	}{
		{impl.AskMsg(353, impl.Quest{Name: "a", Type: impl.TyAddr}), "\x01a\x00\x00\x00\x01\x00\x00\x00\x00\x00\x00\xc0\x00\x00\x01\x00\x01"},
		{impl.AskMsg(353, impl.Quest{Name: "b.a", Type: impl.TyAddr}), "\x01a\x00\x00\x00\x01\x00\x00\x00\x00\x00\x00\x01b\xc0\x00\x00\x01\x00\x01"},
		{impl.AskMsg(0x0141, impl.Quest{Name: "a", Type: impl.TyAddr}), "\x01A\x00\x00\x00\x01\x00\x00\x00\x00\x00\x00\xc0\x00\x00\x01\x00\x01"},
		{impl.AskMsg(353, impl.Quest{Type: impl.TyAddr}), "\x01a\x00\x00\x00\x01\x00\x00\x00\x00\x00\x00\x00\x00\x01\x00\x01"},
	} {
		wantEncoded(t, c.m, []byte(c.b))
		wantDecoded(t, []byte(c.b), c.m)
		m := c.m
		m.Ad = oneOfEach("b.a")
		wantEncoded(t, m, modelPacket(m))
		wantDecoded(t, impl.PutMsg(m), m)
	}
}

// Promise 8.
func TestMessagesAreDecodedFromTheirEncodings(t *testing.T) {
	fit, rest := 0, 0
	for _, m := range append(goodMsgs(), crowdedMsgs()...) {
		b := modelPacket(m)
		if len(b) > maxMsg {
			wantEncoded(t, m, nil)
			wantRejected(t, b)
			rest++
			continue
		}
		wantEncoded(t, m, b)
		wantDecoded(t, impl.PutMsg(m), m)
		fit++
	}
	if fit < 1000 || rest < 100 {
		t.Errorf("%d messages fit, and %d do not", fit, rest)
	}
}

// Promise 8, for each flag, each code and each type in each section.
func TestEveryFlagCodeAndType(t *testing.T) {
	for _, ty := range recordTypes() {
		q := impl.Quest{Name: "ex.com", Type: ty}
		for _, m := range flagged(impl.AskMsg(513, q)) {
			for code := range 16 {
				m.Code = code
				wantDecoded(t, impl.PutMsg(m), m)
			}
		}
		for section := range sectionNames {
			for _, name := range []string{"", "ex.com", "www.ex.com", "org", "ns.com"} {
				for _, r := range oneOfEach(name) {
					for _, m := range flagged(with(impl.AskMsg(4, q), section, []impl.Record{r, r})) {
						wantDecoded(t, impl.PutMsg(m), m)
					}
				}
			}
		}
	}
}

// The names of records point to the question and to records of sections before.
func TestNamesThatOccurAgainAreCompressed(t *testing.T) {
	long := impl.Record{Name: fiftyBytes, Type: impl.TyText}
	m := impl.Msg{Q: impl.Quest{Name: fiftyBytes, Type: impl.TyText}}
	for section := range sectionNames {
		m = with(m, section, []impl.Record{long, long})
	}
	wantEncoded(t, m, modelPacket(m))
	if got := impl.SizeOf(m); got != 12+52+4+6*13 {
		t.Errorf("SizeOf = %d", got)
	}
	m.Q.Name = ""
	if got := impl.SizeOf(m); got != 12+1+4+52+11+5*13 {
		t.Errorf("SizeOf = %d", got)
	}
	wantDecoded(t, impl.PutMsg(m), m)
}

func TestMessagesOfEverySize(t *testing.T) {
	for n := 32; n <= 619; n++ {
		m := sized(n)
		b := modelPacket(m)
		if len(b) != n || !impl.MsgOk(m) {
			t.Fatalf("the message of %d bytes has %d: %s", n, len(b), brief(m))
		}
		if n <= maxMsg {
			wantEncoded(t, m, b)
			wantDecoded(t, b, m)
		} else {
			wantEncoded(t, m, nil)
			wantRejected(t, b)
		}
	}
}

// A byte more may come from each part of a message.
func TestMessagesAroundTheLimit(t *testing.T) {
	for size, fits := range map[int]bool{511: true, 512: true, 513: false, 514: false} {
		m := sized(size)
		if impl.Fits(m) != fits || len(impl.PutMsg(m)) > 0 != fits || impl.SizeOf(m) > 0 != fits {
			t.Errorf("%d bytes: %v %d", size, impl.Fits(m), impl.SizeOf(m))
		}
	}
	for _, size := range []int{511, 512} {
		for section := range sectionNames {
			m := sized(size)
			// A name of its own has three bytes, and a pointer two.
			(*sectionsIn(&m)[section])[0].Name = "b"
			b := modelPacket(m)
			if len(b) != size+1 {
				t.Fatalf("%d bytes instead of %d", len(b), size+1)
			}
			if size == maxMsg {
				wantEncoded(t, m, nil)
				wantRejected(t, b)
			} else {
				wantEncoded(t, m, b)
				wantDecoded(t, b, m)
			}
		}
	}
}

// Bytes that are too many are not a message, whatever they are.
func TestTooManyBytes(t *testing.T) {
	for _, n := range []int{511, 512, 513, 514, 600, 619, 1000, 65535, 65536, 70000} {
		b := modelPacket(sized(min(n, 619)))
		b = append(b, make([]byte, n-len(b))...)
		if n <= maxMsg {
			wantDecoded(t, b, sized(n))
		} else {
			wantRejected(t, b)
		}
		wantRejected(t, make([]byte, n))
		wantRejected(t, bytes.Repeat([]byte{255}, n))
		wantRejected(t, append(impl.PutMsg(full()), make([]byte, n)...))
	}
}

func TestTrailingBytes(t *testing.T) {
	for _, m := range append(someMsgs(), sized(511), sized(512)) {
		b := impl.PutMsg(m)
		wantDecoded(t, b, m)
		for c := range 256 {
			wantRejected(t, append(bytes.Clone(b), byte(c)))
		}
		for _, tail := range [][]byte{{0, 0}, {192, 12}, make([]byte, 11), b, b[12:], modelRecord(nil, oneOfEach("")[0]), []byte("\x01a\x00\x00\x01\x00\x01")} {
			wantRejected(t, slices.Concat(b, tail))
		}
	}
	for _, q := range goodQuests() {
		b := impl.PutMsg(impl.AskMsg(1, q))
		wantRejected(t, append(bytes.Clone(b), 0))
		wantRejected(t, b[:len(b)-1])
	}
}

func TestTruncatedMessages(t *testing.T) {
	for _, m := range append(someMsgs(), sized(511), sized(512)) {
		b := impl.PutMsg(m)
		for length := range b {
			wantRejected(t, b[:length])
			wantRejected(t, b[:length:length])
		}
	}
}

// The records that follow belong to the sections as the header states it.
func TestStatedNumbersOfRecords(t *testing.T) {
	for _, k := range []int{0, 1, 3, 5} {
		l := records(k)
		b := modelPacket(impl.Msg{Q: impl.Quest{Name: "ex.com", Type: impl.TyAddr}, An: l})
		for an := range 10 {
			for au := range 10 {
				for ad := range 10 {
					b[7], b[9], b[11] = byte(an), byte(au), byte(ad)
					if an+au+ad != k {
						wantRejected(t, b)
						continue
					}
					wantDecoded(t, b, impl.Msg{Q: impl.Quest{Name: "ex.com", Type: impl.TyAddr}, An: l[:an], Au: l[an : an+au], Ad: l[an+au:]})
				}
			}
		}
	}
}

// More than MaxList records in a section are rejected, even if they are there.
func TestStatedNumbersAboveTheLimit(t *testing.T) {
	r := impl.Record{Name: "a", Type: impl.TyText}
	for section := range sectionNames {
		for n := range 30 {
			l := slices.Repeat([]impl.Record{r}, n)
			m := with(impl.AskMsg(1, impl.Quest{Name: "a", Type: impl.TyAddr}), section, l)
			b := modelPacket(m)
			if n <= 8 {
				wantDecoded(t, b, m)
				wantEncoded(t, m, b)
			} else {
				wantRejected(t, b)
				wantEncoded(t, m, nil)
			}
			b[6+2*section]++
			wantRejected(t, b)
			b[6+2*section] = 255
			wantRejected(t, b)
		}
	}
}

func TestQuestionsOfMessages(t *testing.T) {
	for _, m := range goodMsgs() {
		b := impl.PutMsg(m)
		if len(b) > 0 {
			wantQuest(t, b, 12, questAt{m.Q, len(modelPut(modelHead(m), m.Q.Name)) + 4, impl.WiGood})
		}
	}
	for _, q := range goodQuests() {
		for _, front := range []string{"", "\x00", "\xff\xff\xff"} {
			b := slices.Concat([]byte(front), plain(q.Name), two(q.Type), two(1))
			wantQuest(t, b, len(front), questAt{q, len(b), impl.WiGood})
			wantQuest(t, append(b, 1, 2), len(front), questAt{q, len(b), impl.WiGood})
		}
	}
}

func TestCompressedQuestions(t *testing.T) {
	const front = "\x02Ex\x03coM\x00\xc0\x00\x01b\xc0\x08\x00"
	for name, want := range map[string]string{
		"\xc0\x00": "ex.com", "\xc0\x03": "com", "\xc0\x08": "ex.com", "\xc0\x0a": "b.ex.com", "\xc0\x07": "", "\x03WWW\xc0\x0a": "www.b.ex.com", "\x01A\x00": "a", "\x00": "",
	} {
		b := []byte(front + name + "\x00\x05\x00\x01")
		wantQuest(t, b, len(front), questAt{impl.Quest{Name: want, Type: impl.TyAlias}, len(b), impl.WiGood})
		wantQuest(t, append(b, 9), len(front), questAt{impl.Quest{Name: want, Type: impl.TyAlias}, len(b), impl.WiGood})
	}
}

func TestQuestionsOfEveryTypeAndClass(t *testing.T) {
	for _, name := range []string{"", "ex.com"} {
		for n := range 65536 {
			b := slices.Concat(plain(name), two(n), two(1))
			if slices.Contains(recordTypes(), n) {
				wantQuest(t, b, 0, questAt{impl.Quest{Name: name, Type: n}, len(b), impl.WiGood})
			} else {
				wantNoQuest(t, b, 0, impl.WiForm)
			}
			b = slices.Concat(plain(name), two(impl.TyStart), two(n))
			if n == 1 {
				wantQuest(t, b, 0, questAt{impl.Quest{Name: name, Type: impl.TyStart}, len(b), impl.WiGood})
			} else {
				wantNoQuest(t, b, 0, impl.WiForm)
			}
		}
	}
}

func TestTypesAndClassesInMessages(t *testing.T) {
	head := impl.PutHead(impl.Msg{Id: 1})
	for ty := range 300 {
		for class := range 4 {
			b := slices.Concat(head, plain("a"), two(ty), two(class))
			if class == 1 && slices.Contains(recordTypes(), ty) {
				wantDecoded(t, b, impl.AskMsg(1, impl.Quest{Name: "a", Type: ty}))
			} else {
				wantRejected(t, b)
			}
		}
	}
}

func TestFewerThanFourBytesAfterTheQuestion(t *testing.T) {
	for _, tail := range []string{"\x00\x01\x00\x01", "\xff\xff\xff\xff", "\x00\x03\x00\x02"} {
		for _, name := range []string{"\x00", "\x01a\x00", "\x02ex\x03com\x00", "\x01b\xc0\x00"} {
			whole := []byte("\x00" + name + tail)
			for missing := 1; missing <= 4; missing++ {
				length := len(whole) - missing
				wantNoQuest(t, whole[:length], 1, impl.WiShort)
				wantNoQuest(t, whole[:length:length], 1, impl.WiShort)
			}
			wantQuest(t, whole, 1, modelGetQuest(whole, 1))
		}
	}
}

// Each question is wrong in several ways, of which the first one counts.
func TestOrderOfCodesOfQuestions(t *testing.T) {
	for name, code := range map[string]int{
		"\x01": impl.WiShort, "\x03ab": impl.WiShort, "\x0d": impl.WiForm, "\x01?": impl.WiForm, "\xc0\x00": impl.WiJump, "\xff\xff": impl.WiJump, "\xc0": impl.WiShort,
		strings.Repeat("\x01a", 7): impl.WiLong,
	} {
		wantNoQuest(t, []byte(name), 0, code)
		if code == impl.WiShort {
			continue
		}
		for _, tail := range []string{"\x00", "\x00\x01\x00", "\x00\x01\x00\x01", "\x00\x03\x00\x01", "\x00\x01\x00\x02", "\xff\xff\xff\xff\xff"} {
			wantNoQuest(t, []byte(name+tail), 0, code)
		}
	}
	for tail, code := range map[string]int{
		"": impl.WiShort, "\x00": impl.WiShort, "\xff\xff": impl.WiShort, "\x00\x03\x00": impl.WiShort, "\x00\x01\x00": impl.WiShort,
		"\x00\x03\x00\x01": impl.WiForm, "\x00\x01\x00\x02": impl.WiForm, "\x00\x03\x00\x02": impl.WiForm, "\x00\x00\x00\x00": impl.WiForm, "\x01\x01\x00\x01": impl.WiForm,
		"\x00\x01\x01\x01": impl.WiForm, "\x01\x00\x01\x00": impl.WiForm,
	} {
		wantNoQuest(t, []byte("\x01a\x00"+tail), 0, code)
		wantNoQuest(t, []byte("\x00"+tail), 0, code)
	}
}

func TestQuestionsOutsideTheBytes(t *testing.T) {
	for _, b := range [][]byte{nil, {}, {0}, []byte("\x01a\x00\x00\x01\x00\x01"), make([]byte, 300)} {
		for _, at := range []int{-1, -2, -4, -256, math.MinInt, math.MinInt + 1, len(b), len(b) + 1, len(b) + 4, 1 << 32, math.MaxInt - 4, math.MaxInt - 1, math.MaxInt} {
			wantNoQuest(t, b, at, impl.WiShort)
		}
	}
	b := []byte("\x00\x00\x01\x00\x01")
	for at := range b {
		wantQuest(t, b, at, modelGetQuest(b, at))
	}
}

func TestQuestionsOfTheRootInPackets(t *testing.T) {
	for _, ty := range recordTypes() {
		q := impl.Quest{Type: ty}
		for _, m := range flagged(impl.ReplyTo(impl.AskMsg(2, q), 0, true, oneOfEach(""), nil, oneOfEach("ns.com"))) {
			b := impl.PutMsg(m)
			wantEncoded(t, m, modelPacket(m))
			wantQuest(t, b, 12, questAt{q, 17, impl.WiGood})
			wantDecoded(t, b, m)
		}
		wantEncoded(t, impl.AskMsg(2, q), slices.Concat([]byte{0, 2, 0, 0, 0, 1, 0, 0, 0, 0, 0, 0, 0}, two(ty), two(1)))
		wantEncoded(t, impl.AskMsg(2, impl.Quest{Name: ".", Type: ty}), nil)
	}
}

// All short sequences of bytes that matter in a question.
func TestAllShortQuestions(t *testing.T) {
	for _, s := range allStrings("\x00\x01a\x02\xc0", 6) {
		b := []byte("\x01b\x00" + s)
		want := modelGetQuest(b, 3)
		q, next, code := impl.GetQuest(b, 3)
		if (questAt{q, next, code}) != want {
			t.Fatalf("GetQuest(%q, 3) = %#v %d %d, want %#v", b, q, next, code, want)
		}
	}
}

// Hosts may be compressed in a packet, but PutMsg does not compress them: what
// was decoded need not fit.
func TestDecodedMessagesThatDoNotFit(t *testing.T) {
	for _, k := range []int{1, 8, 24} {
		m := impl.Msg{Id: 1, Reply: true, Q: impl.Quest{Name: fiftyBytes, Type: impl.TyServer}}
		for i := range k {
			l := sectionsIn(&m)[i/8]
			*l = append(*l, impl.Record{Name: fiftyBytes, Type: impl.TyServer, Ttl: 60, Host: fiftyBytes})
		}
		b := slices.Concat(impl.PutHead(m), plain(fiftyBytes), two(impl.TyServer), two(1))
		for range k {
			b = append(b, plainRecord("\xc0\x0c", impl.TyServer, "\xc0\x0c")...)
		}
		wantDecoded(t, b, m)
		if k == 1 {
			wantEncoded(t, m, modelPacket(m))
		} else {
			wantEncoded(t, m, nil)
		}
		if !impl.MsgOk(m) {
			t.Errorf("MsgOk(%s) = false", brief(m))
		}
	}
}

// Upper-case letters are folded in the question and in the records.
func TestUpperCaseInMessages(t *testing.T) {
	const tail = "\x02eX\x03Com\x00\x00\x02\x00\x01" + "\x03WWW\xc0\x0c\x00\x02\x00\x01\x00\x00\x00\x09\x00\x05\x02Ns\xc0\x0f"
	m := impl.Msg{Id: 1, Reply: true, Q: impl.Quest{Name: "ex.com", Type: impl.TyServer}, Au: []impl.Record{{Name: "www.ex.com", Type: impl.TyServer, Ttl: 9, Host: "ns.com"}}}
	b := append(impl.PutHead(m), tail...)
	wantDecoded(t, b, m)
	if !wantModel(t, b) {
		t.Error("the model rejects the message")
	}
}

func TestMessagesWithOneByteReplaced(t *testing.T) {
	for _, m := range []impl.Msg{full(), impl.AskMsg(258, impl.Quest{Name: "www.ex.com", Type: impl.TyAddr}), {Id: 353, Q: impl.Quest{Name: "a", Type: impl.TyStart}, An: oneOfEach("")}} {
		b := impl.PutMsg(m)
		for at := range b {
			for c := range 256 {
				changed := bytes.Clone(b)
				changed[at] = byte(c)
				wantModel(t, changed)
			}
		}
		if t.Failed() {
			t.FailNow()
		}
	}
}

// mangled is a packet of which some parts are wrong, changed, missing or new.
func mangled(next func(n int) int, all []impl.Record, names []string) []byte {
	m := flagged(impl.AskMsg(next(65536), impl.Quest{Name: names[next(len(names))], Type: recordTypes()[next(5)]}))[next(32)]
	m.Code = next(16)
	for _, l := range sectionsIn(&m) {
		for range next(4) {
			*l = append(*l, all[next(len(all))])
		}
	}
	b := modelPacket(m)
	switch next(8) {
	case 0:
		b[2+next(2)] ^= 1 << next(8)
	case 1:
		b[4+next(8)] += byte(1 - 2*next(2))
	case 2:
		b = append(b, make([]byte, next(2)+1)...)
	case 3:
		b = b[:next(len(b))]
	case 4:
		at := next(len(b))
		b = slices.Concat(b[:at], []byte{byte(next(256))}, b[at:])
	case 5:
		for range 1 + next(3) {
			b[next(len(b))] = byte(next(256))
		}
	}
	return b
}

// Whatever the bytes, the program decodes as the model does.
func TestManyPackets(t *testing.T) {
	next := draws(8)
	all, names := codedRecords(), someNames()
	count := map[bool]int{}
	for range 4000 {
		b := mangled(next, all, names)
		count[wantModel(t, b)]++
		at := next(len(b)+3) - 1
		wantQuest(t, b, at, modelGetQuest(b, at))
		if t.Failed() {
			t.FailNow()
		}
	}
	if count[true] < 500 || count[false] < 500 {
		t.Errorf("%d packets are good and %d are not", count[true], count[false])
	}
}

// Bytes of no structure, behind a good header and without one.
func TestArbitraryBytes(t *testing.T) {
	next := draws(88)
	for n := range 3000 {
		b := make([]byte, next(60))
		for i := range b {
			b[i] = byte(next([]int{2, 4, 256}[n%3]))
		}
		wantModel(t, b)
		for _, counts := range []string{"\x00\x00\x00\x00\x00\x00", "\x00\x01\x00\x00\x00\x00", "\x00\x01\x00\x01\x00\x01"} {
			wantModel(t, append([]byte("\x00\x00\x00\x00\x00\x01"+counts), b...))
		}
		wantModelHead(t, b)
		for at := -1; at <= len(b); at++ {
			wantQuest(t, b, at, modelGetQuest(b, at))
		}
	}
}

func TestInvalidMessagesAreNotEncoded(t *testing.T) {
	for _, m := range badMsgs() {
		wantEncoded(t, m, nil)
	}
	for _, r := range badRecords() {
		for section := range sectionNames {
			wantEncoded(t, with(impl.AskMsg(1, impl.Quest{Type: impl.TyAddr}), section, []impl.Record{r}), nil)
		}
	}
	for section := range sectionNames {
		for at := range impl.MaxList {
			l := slices.Repeat([]impl.Record{{Type: impl.TyText}}, impl.MaxList)
			m := with(impl.AskMsg(1, impl.Quest{Type: impl.TyAddr}), section, l)
			wantEncoded(t, m, modelPacket(m))
			l[at].Ttl = -1
			wantEncoded(t, m, nil)
		}
	}
}

func TestEncodingMessagesChangesNothing(t *testing.T) {
	for length := range 12 {
		m, wholes := spare(length)
		impl.PutHead(m)
		impl.PutMsg(m)
		impl.SizeOf(m)
		impl.Fits(m)
		if !allEqual(wholes, records(12)) {
			t.Errorf("a message with sections of %d records was changed", length)
		}
		want, _ := spare(length)
		wantMsg(t, "the argument", m, want)
	}
}

func TestEncodingsShareNoMemory(t *testing.T) {
	for _, m := range append(someMsgs(), impl.Msg{}, impl.Msg{Id: -1}, sized(512), sized(513)) {
		for name, put := range map[string]func(m impl.Msg) []byte{"PutHead": impl.PutHead, "PutMsg": impl.PutMsg} {
			out, other := put(m), put(m)
			want := bytes.Clone(other)
			fill(out[:cap(out)], 77)
			if !bytes.Equal(other, want) || !bytes.Equal(put(m), want) {
				t.Errorf("two results of %s share memory", name)
			}
		}
	}
}

func TestDecodingMessagesChangesNothing(t *testing.T) {
	for _, m := range someMsgs() {
		b := impl.PutMsg(m)
		whole := append(bytes.Clone(b), bytes.Repeat([]byte{77}, 40)...)
		before := bytes.Clone(whole)
		for length := range len(whole) + 1 {
			impl.GetMsg(whole[:length])
			impl.GetHead(whole[:length])
			impl.GetQuest(whole[:length], 12)
		}
		if !bytes.Equal(whole, before) {
			t.Errorf("the argument was changed: %q", whole)
		}
		got, _ := impl.GetMsg(whole[:len(b)])
		head, _, _, _, _ := impl.GetHead(whole)
		q, _, _ := impl.GetQuest(whole, 12)
		fill(whole, 'x')
		wantMsg(t, "a decoded message", got, m)
		wantMsg(t, "a decoded header", head, headOf(m))
		if q != m.Q {
			t.Errorf("the question is %#v", q)
		}
	}
}

// The sections of a decoded message are new memory, each of them.
func TestDecodedSectionsShareNoMemory(t *testing.T) {
	for _, m := range append(someMsgs(), sized(512)) {
		b := impl.PutMsg(m)
		for section := range sectionNames {
			out, _ := impl.GetMsg(b)
			other, _ := impl.GetMsg(b)
			l := sectionsIn(&out)[section]
			fillRecords((*l)[:cap(*l)], "x")
			*l = append(*l, records(3)...)
			want := with(m, section, *l)
			wantMsg(t, "the other sections", out, want)
			wantMsg(t, "another result", other, m)
			wantDecoded(t, b, m)
		}
	}
}

// What lies in the spare capacity is not part of a message.
func TestMessagesIgnoreSpareCapacity(t *testing.T) {
	m := full()
	b := impl.PutMsg(m)
	whole := append(bytes.Clone(b), b...)
	wantDecoded(t, whole[:len(b)], m)
	wantRejected(t, whole[:len(b)-1])
	wantNoHead(t, whole[:headBytes-1])
	wantNoQuest(t, whole[:headBytes], headBytes, impl.WiShort)
	l := records(3)
	one := with(impl.AskMsg(1, m.Q), 0, l[:1])
	wantEncoded(t, one, modelPacket(with(one, 0, records(1))))
}

func TestNilAndEmptyPackets(t *testing.T) {
	for _, b := range [][]byte{nil, {}, make([]byte, 20)[:0]} {
		wantRejected(t, b)
		wantNoHead(t, b)
		wantNoQuest(t, b, 0, impl.WiShort)
		wantNoQuest(t, b, headBytes, impl.WiShort)
	}
	for section := range sectionNames {
		for _, m := range []impl.Msg{full(), impl.AskMsg(1, impl.Quest{Type: impl.TyAddr}), {}} {
			a, b := with(m, section, nil), with(m, section, []impl.Record{})
			wantEncoded(t, b, impl.PutMsg(a))
			if !bytes.Equal(impl.PutHead(a), impl.PutHead(b)) {
				t.Errorf("PutHead of %s and of %s", brief(a), brief(b))
			}
		}
	}
}
