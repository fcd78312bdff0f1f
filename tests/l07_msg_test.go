package tests

import (
	"fmt"
	"math"
	"reflect"
	"slices"
	"strings"
	"testing"

	"loop.example/g00497/impl"
)

const maxCode = 15

var sectionNames = []string{"An", "Au", "Ad"}

// sectionsIn are the sections of m, to be read and to be replaced.
func sectionsIn(m *impl.Msg) []*[]impl.Record {
	return []*[]impl.Record{&m.An, &m.Au, &m.Ad}
}

func cloneMsg(m impl.Msg) impl.Msg {
	for _, l := range sectionsIn(&m) {
		*l = slices.Clone(*l)
	}
	return m
}

// with is m with one section replaced.
func with(m impl.Msg, section int, l []impl.Record) impl.Msg {
	*sectionsIn(&m)[section] = l
	return m
}

// modelSame compares all fields, without the program. An empty section is the
// same as none.
func modelSame(a impl.Msg, b impl.Msg) bool {
	for i, l := range sectionsIn(&a) {
		other := sectionsIn(&b)[i]
		if !slices.Equal(*l, *other) {
			return false
		}
		*l, *other = nil, nil
	}
	return reflect.DeepEqual(a, b)
}

// modelMsgText is the text of a valid message, written without the program.
func modelMsgText(m impl.Msg) string {
	types := map[int]string{1: "addr", 2: "server", 5: "alias", 6: "start", 16: "text"}
	kind := map[bool]string{false: "ask", true: "reply"}[m.Reply]
	auth := map[bool]string{true: " auth"}[m.Auth]
	cut := map[bool]string{true: " cut"}[m.Cut]
	parts := []string{fmt.Sprintf("%s %d %d %s %s%s%s", kind, m.Id, m.Code, dotted(m.Q.Name), types[m.Q.Type], auth, cut)}
	for _, r := range slices.Concat(m.An, m.Au, m.Ad) {
		parts = append(parts, modelText(r))
	}
	return strings.Join(parts, "; ")
}

// records returns n valid records, no two of them equal.
func records(n int) []impl.Record {
	out := []impl.Record{}
	for i := range n {
		r := oneOfEach([]string{"ex.com", "", "www.ex.com"}[i%3])[i%5]
		r.Ttl = i
		out = append(out, r)
	}
	return out
}

func goodQuests() []impl.Quest {
	out := []impl.Quest{}
	for _, name := range goodNames() {
		for _, ty := range recordTypes() {
			out = append(out, impl.Quest{Name: name, Type: ty})
		}
	}
	return out
}

func badQuests() []impl.Quest {
	out := []impl.Quest{{}, {Name: "a"}, {Name: "."}, {Name: ".", Type: impl.TyAddr}, {Name: "A", Type: 3}}
	for _, ty := range recordTypes() {
		for _, name := range badNames() {
			out = append(out, impl.Quest{Name: name, Type: ty})
		}
	}
	for _, ty := range noTypes() {
		for _, name := range someNames() {
			out = append(out, impl.Quest{Name: name, Type: ty})
		}
	}
	return out
}

// flagged has m with all combinations of the five flags.
func flagged(m impl.Msg) []impl.Msg {
	out := []impl.Msg{}
	for bits := range 32 {
		m.Reply, m.Auth, m.Cut, m.Want, m.Can = bits&1 != 0, bits&2 != 0, bits&4 != 0, bits&8 != 0, bits&16 != 0
		out = append(out, m)
	}
	return out
}

// full is a message with every field set and with two records in each section.
func full() impl.Msg {
	l := records(6)
	return impl.Msg{
		Id: 7, Reply: true, Auth: true, Cut: true, Want: true, Can: true, Code: impl.RcNoName, Q: impl.Quest{Name: "ex.com", Type: impl.TyText},
		An: l[:2:2], Au: l[2:4:4], Ad: l[4:6:6],
	}
}

// goodMsgs are valid: all flags, codes, types of questions, and sizes of sections.
func goodMsgs() []impl.Msg {
	out := append(flagged(full()), flagged(impl.Msg{Q: impl.Quest{Type: impl.TyServer}})...)
	for _, id := range []int{0, 1, 255, 256, impl.MaxTwo - 1, impl.MaxTwo} {
		for code := range maxCode + 1 {
			out = append(out, impl.Msg{Id: id, Code: code, Q: impl.Quest{Name: "com", Type: impl.TyAddr}}, impl.Msg{Id: id, Reply: true, Code: code, Q: impl.Quest{Type: impl.TyAddr}, Au: records(1)})
		}
	}
	for _, q := range goodQuests() {
		out = append(out, impl.Msg{Q: q}, impl.Msg{Reply: true, Q: q, Ad: records(2)})
	}
	for an := range impl.MaxList + 1 {
		for au := range impl.MaxList + 1 {
			for ad := range impl.MaxList + 1 {
				l := records(an + au + ad)
				m := full()
				m.An, m.Au, m.Ad = l[:an], l[an:an+au], l[an+au:]
				out = append(out, m)
			}
		}
	}
	for _, r := range codedRecords() {
		for section := range sectionNames {
			out = append(out, with(full(), section, []impl.Record{r}), with(full(), section, slices.Repeat([]impl.Record{r}, impl.MaxList)))
		}
	}
	return out
}

// badMsgs are invalid by one field.
func badMsgs() []impl.Msg {
	out := []impl.Msg{{}, {Id: 1}, {Reply: true}, {Q: impl.Quest{Name: "com"}}, {An: records(1)}}
	for _, m := range []impl.Msg{full(), impl.AskMsg(0, impl.Quest{Type: impl.TyAddr})} {
		add := func(change func(m *impl.Msg)) {
			x := m
			change(&x)
			out = append(out, x)
		}
		for _, id := range outOfRange(impl.MaxTwo) {
			add(func(m *impl.Msg) { m.Id = id })
		}
		for _, code := range outOfRange(maxCode) {
			add(func(m *impl.Msg) { m.Code = code })
		}
		for _, q := range badQuests() {
			add(func(m *impl.Msg) { m.Q = q })
		}
		for section := range sectionNames {
			for _, n := range []int{impl.MaxList + 1, impl.MaxList + 2, 16, 17, 255, 256, 257, 264, 5000} {
				out = append(out, with(m, section, records(n)))
			}
			out = append(out, with(m, section, make([]impl.Record, 1)), with(m, section, make([]impl.Record, impl.MaxList+1)))
		}
	}
	return out
}

func wantMsg(t *testing.T, what string, got impl.Msg, want impl.Msg) {
	t.Helper()
	if !modelSame(got, want) {
		t.Errorf("%s = %s, want %s", what, brief(got), brief(want))
	}
}

// wantOk fails if the message is not as valid as stated, or has a text although
// it is invalid, or another text than the model's.
func wantOk(t *testing.T, m impl.Msg, ok bool) {
	t.Helper()
	if got := impl.MsgOk(m); got != ok {
		t.Errorf("MsgOk(%s) = %v", brief(m), got)
	}
	text := ""
	if ok {
		text = modelMsgText(m)
	}
	if got := impl.MsgText(m); got != text {
		t.Errorf("MsgText(%s) = %.300q, want %.300q", brief(m), got, text)
	}
}

// wantSame fails if SameMsg, in one of the two orders, is not want.
func wantSame(t *testing.T, a impl.Msg, b impl.Msg, want bool) {
	t.Helper()
	if impl.SameMsg(a, b) != want || impl.SameMsg(b, a) != want {
		t.Errorf("SameMsg(%s, %s) = %v, and %v the other way", brief(a), brief(b), impl.SameMsg(a, b), impl.SameMsg(b, a))
	}
}

func TestCodesOfReplies(t *testing.T) {
	codes := []int{impl.RcGood, impl.RcForm, impl.RcFail, impl.RcNoName, impl.RcRefused}
	if !slices.Equal(codes, []int{0, 1, 2, 3, 5}) {
		t.Error(codes)
	}
}

func TestQuestOk(t *testing.T) {
	for _, q := range goodQuests() {
		if !impl.QuestOk(q) {
			t.Errorf("QuestOk(%#v) = false", q)
		}
	}
	for _, q := range badQuests() {
		if impl.QuestOk(q) {
			t.Errorf("QuestOk(%s) = true", brief(q))
		}
	}
}

func TestMsgOkAndMsgText(t *testing.T) {
	for _, m := range goodMsgs() {
		wantOk(t, m, true)
	}
	for _, m := range badMsgs() {
		wantOk(t, m, false)
	}
}

func TestEveryId(t *testing.T) {
	m := full()
	for id := -2; id <= impl.MaxTwo+2; id++ {
		m.Id = id
		if got := impl.MsgOk(m); got != (0 <= id && id <= 65535) {
			t.Errorf("MsgOk with the Id %d = %v", id, got)
		}
	}
	for _, id := range []int{-1, 0, impl.MaxTwo, impl.MaxTwo + 1, math.MaxInt, math.MinInt} {
		m.Id = id
		wantOk(t, m, id == 0 || id == impl.MaxTwo)
	}
}

func TestEveryCode(t *testing.T) {
	m := full()
	for code := -20; code <= 300; code++ {
		m.Code = code
		wantOk(t, m, 0 <= code && code <= 15)
	}
	for _, code := range []int{-1, 0, 15, 16, impl.MaxTwo, 1 << 32, math.MaxInt, math.MinInt} {
		m.Code = code
		wantOk(t, m, code == 0 || code == 15)
	}
}

// The number of records counts for each section, not for all of them together.
func TestSectionsOfEverySize(t *testing.T) {
	empty := impl.AskMsg(1, impl.Quest{Name: "ex.com", Type: impl.TyAddr})
	crowded := empty
	for _, l := range sectionsIn(&crowded) {
		*l = records(impl.MaxList)
	}
	wantOk(t, empty, true)
	wantOk(t, crowded, true)
	for section, name := range sectionNames {
		for _, others := range []impl.Msg{empty, full(), crowded} {
			for n := range 40 {
				m := with(others, section, records(n))
				wantOk(t, m, n <= 8)
				if got, want := impl.CountsOf(m), impl.CountsOf(others)-len(*sectionsIn(&others)[section])+n; got != want {
					t.Errorf("CountsOf with %d records in %s = %d, want %d", n, name, got, want)
				}
			}
		}
	}
}

// One invalid record is enough, wherever it stands.
func TestInvalidRecordAmongValidOnes(t *testing.T) {
	for section := range sectionNames {
		for _, r := range badRecords() {
			wantOk(t, with(full(), section, []impl.Record{r}), false)
		}
		for _, r := range []impl.Record{{}, {Name: "A", Type: impl.TyAddr}, {Name: "a", Type: 3}, {Type: impl.TyAddr, Ttl: impl.MaxTtl + 1}, {Type: impl.TyAddr, N: -1}} {
			for n := 1; n <= impl.MaxList+2; n++ {
				for at := range n {
					l := records(n)
					l[at] = r
					wantOk(t, with(full(), section, l), false)
				}
			}
		}
	}
}

// A record that is one too many makes the message invalid, also if it equals
// another one; what lies beyond the length of a section does not count.
func TestOneRecordTooMany(t *testing.T) {
	for section := range sectionNames {
		same := slices.Repeat(records(1), impl.MaxList+1)
		wantOk(t, with(full(), section, same), false)
		wantOk(t, with(full(), section, same[:impl.MaxList]), true)
		l := records(impl.MaxList + 1)
		l[impl.MaxList] = impl.Record{Name: "A"}
		wantOk(t, with(full(), section, l), false)
		wantOk(t, with(full(), section, l[:impl.MaxList]), true)
		wantSame(t, with(full(), section, l[:impl.MaxList]), with(full(), section, records(impl.MaxList)), true)
	}
}

func TestMsgText(t *testing.T) {
	q := impl.Quest{Name: "ex.com", Type: impl.TyAddr}
	addr := impl.Record{Name: "ex.com", Type: impl.TyAddr, Ttl: 60, N: 7}
	server := impl.Record{Name: "com", Type: impl.TyServer, Ttl: 5, Host: "ns.com"}
	root := impl.Record{Type: impl.TyStart, Ttl: 1, N: 2}
	text := impl.Record{Type: impl.TyText, Text: "hi"}
	for _, c := range []struct {
		m    impl.Msg
		text string
	}{
		{impl.Msg{Id: 7, Q: q}, "ask 7 0 ex.com addr"},
		{impl.Msg{Id: 7, Want: true, Can: true, Q: q}, "ask 7 0 ex.com addr"},
		{impl.Msg{Id: 7, Auth: true, Cut: true, Q: q}, "ask 7 0 ex.com addr auth cut"},
		{impl.Msg{Reply: true, Q: q}, "reply 0 0 ex.com addr"},
		{impl.Msg{Id: impl.MaxTwo, Reply: true, Code: 15, Q: q}, "reply 65535 15 ex.com addr"},
		{impl.Msg{Reply: true, Auth: true, Q: q}, "reply 0 0 ex.com addr auth"},
		{impl.Msg{Reply: true, Cut: true, Q: q}, "reply 0 0 ex.com addr cut"},
		{impl.Msg{Reply: true, Auth: true, Cut: true, Want: true, Can: true, Q: q}, "reply 0 0 ex.com addr auth cut"},
		{impl.Msg{Q: impl.Quest{Type: impl.TyServer}}, "ask 0 0 . server"},
		{impl.Msg{Q: impl.Quest{Type: impl.TyAlias}, An: []impl.Record{text}}, "ask 0 0 . alias; . 0 text 'hi"},
		{impl.Msg{Q: impl.Quest{Name: "a", Type: impl.TyStart}, Au: []impl.Record{root}}, "ask 0 0 a start; . 1 start . 2"},
		{impl.Msg{Q: impl.Quest{Name: "a", Type: impl.TyText}, Ad: []impl.Record{addr}}, "ask 0 0 a text; ex.com 60 addr 7"},
		{impl.Msg{Id: 1, Reply: true, Code: 3, Q: q, An: []impl.Record{addr}, Au: []impl.Record{server}, Ad: []impl.Record{root}}, "reply 1 3 ex.com addr; ex.com 60 addr 7; com 5 server ns.com; . 1 start . 2"},
		{impl.Msg{Id: 1, Reply: true, Auth: true, Q: q, An: []impl.Record{text, root}, Ad: []impl.Record{server, server}}, "reply 1 0 ex.com addr auth; . 0 text 'hi; . 1 start . 2; com 5 server ns.com; com 5 server ns.com"},
		{impl.Msg{Cut: true, Q: q, Au: []impl.Record{server, addr}}, "ask 0 0 ex.com addr cut; com 5 server ns.com; ex.com 60 addr 7"},
	} {
		wantOk(t, c.m, true)
		if got := impl.MsgText(c.m); got != c.text {
			t.Errorf("MsgText(%#v) = %q, want %q", c.m, got, c.text)
		}
	}
}

// The root is written as a dot, but a dot is not a name.
func TestQuestionsOfTheRoot(t *testing.T) {
	for i, ty := range recordTypes() {
		q := impl.Quest{Type: ty}
		m := impl.ReplyTo(impl.AskMsg(2, q), 0, false, oneOfEach(""), nil, nil)
		if !impl.QuestOk(q) || m.Q != q || !strings.HasPrefix(impl.MsgText(m), "reply 2 0 . "+impl.TypeText(ty)+"; . 60 addr 7; . 60 server ns.com; ") {
			t.Errorf("type %d: %q", i, impl.MsgText(m))
		}
		m.Q.Name = "."
		wantOk(t, m, false)
		if impl.QuestOk(m.Q) {
			t.Errorf("QuestOk(%#v) = true", m.Q)
		}
		m.Q.Name, m.An[3].Name = "", "."
		wantOk(t, m, false)
	}
}

// The Id and the question are not checked: the document gives no fallback.
func TestAskMsg(t *testing.T) {
	for _, q := range append(goodQuests(), badQuests()...) {
		got := impl.AskMsg(258, q)
		wantMsg(t, "AskMsg", got, impl.Msg{Id: 258, Q: q})
		wantOk(t, got, impl.QuestOk(q))
	}
	for _, id := range append(outOfRange(impl.MaxTwo), valuesUpTo(impl.MaxTwo)...) {
		q := impl.Quest{Name: "ex.com", Type: impl.TyStart}
		got := impl.AskMsg(id, q)
		wantMsg(t, "AskMsg", got, impl.Msg{Id: id, Q: q})
		wantOk(t, got, 0 <= id && id <= 65535)
		if n := impl.CountsOf(got); n != 0 {
			t.Errorf("CountsOf(AskMsg(%d)) = %d", id, n)
		}
	}
}

// Promise 7.
func TestReplyHasTheQuestionOfItsQuery(t *testing.T) {
	for _, q := range append(goodQuests(), badQuests()...) {
		m := impl.AskMsg(9, q)
		for _, code := range []int{impl.RcGood, impl.RcNoName, impl.RcRefused, -1} {
			got := impl.ReplyTo(m, code, true, records(1), records(2), records(3))
			if got.Q != q || got.Id != 9 || !got.Reply {
				t.Errorf("the reply to %s is %s", brief(m), brief(got))
			}
			again := impl.ReplyTo(got, code, false, nil, nil, nil)
			if again.Q != q || again.Id != 9 || !again.Reply {
				t.Errorf("the reply to %s is %s", brief(got), brief(again))
			}
		}
	}
}

// Promise 7, for all messages: of the other fields of the query, only Want is
// in the reply, which has what it is given in addition.
func TestReplyTo(t *testing.T) {
	an, au, ad := records(6)[:3], records(6)[3:5], records(6)[5:]
	for _, m := range append(goodMsgs(), badMsgs()...) {
		for _, auth := range []bool{false, true} {
			want := impl.Msg{Id: m.Id, Reply: true, Auth: auth, Want: m.Want, Code: impl.RcRefused, Q: m.Q}
			wantMsg(t, "ReplyTo", impl.ReplyTo(m, impl.RcRefused, auth, nil, nil, nil), want)
			want.An, want.Au, want.Ad = an, au, ad
			wantMsg(t, "ReplyTo", impl.ReplyTo(m, impl.RcRefused, auth, an, au, ad), want)
		}
	}
}

func TestReplyToEveryCodeAndSection(t *testing.T) {
	for _, m := range flagged(impl.AskMsg(4, impl.Quest{Name: "a", Type: impl.TyAlias})) {
		for code := -1; code <= 16; code++ {
			got := impl.ReplyTo(m, code, code%2 == 0, nil, nil, nil)
			wantMsg(t, "ReplyTo", got, impl.Msg{Id: 4, Reply: true, Auth: code%2 == 0, Want: m.Want, Code: code, Q: m.Q})
			wantOk(t, got, 0 <= code && code <= 15)
		}
		for section := range sectionNames {
			sections := make([][]impl.Record, 3)
			sections[section] = records(2)
			want := with(impl.Msg{Id: 4, Reply: true, Want: m.Want, Q: m.Q}, section, records(2))
			wantMsg(t, "ReplyTo", impl.ReplyTo(m, 0, false, sections[0], sections[1], sections[2]), want)
		}
	}
}

// Nothing is left out of a section, so a reply with too many records is invalid.
func TestReplyToWithTooManyRecords(t *testing.T) {
	m := impl.AskMsg(4, impl.Quest{Name: "a", Type: impl.TyAddr})
	for section := range sectionNames {
		for _, n := range []int{7, 8, 9, 10, 16, 17, 300} {
			sections := [][]impl.Record{records(8), records(8), records(8)}
			sections[section] = records(n)
			got := impl.ReplyTo(m, 0, true, sections[0], sections[1], sections[2])
			wantMsg(t, "ReplyTo", got, impl.Msg{Id: 4, Reply: true, Auth: true, Q: m.Q, An: sections[0], Au: sections[1], Ad: sections[2]})
			wantOk(t, got, n <= 8)
			if count := impl.CountsOf(got); count != 16+n {
				t.Errorf("CountsOf = %d with %d records in %s", count, n, sectionNames[section])
			}
		}
	}
}

// Invalid records and an invalid query are in the reply as they are.
func TestReplyToWithInvalidParts(t *testing.T) {
	bad := badRecords()
	for _, m := range []impl.Msg{{}, {Id: -1, Code: 16, Q: impl.Quest{Name: "A", Type: 3}, Ad: records(9)}, full()} {
		got := impl.ReplyTo(m, math.MinInt, false, bad, bad[:1], bad[1:])
		wantMsg(t, "ReplyTo", got, impl.Msg{Id: m.Id, Reply: true, Want: m.Want, Code: math.MinInt, Q: m.Q, An: bad, Au: bad[:1], Ad: bad[1:]})
		wantOk(t, got, false)
	}
}

func TestCountsOf(t *testing.T) {
	for _, m := range append(goodMsgs(), badMsgs()...) {
		if got, want := impl.CountsOf(m), len(slices.Concat(m.An, m.Au, m.Ad)); got != want {
			t.Errorf("CountsOf(%s) = %d, want %d", brief(m), got, want)
		}
	}
	if got := impl.CountsOf(impl.Msg{An: records(1), Au: records(20), Ad: records(300)}); got != 321 {
		t.Error(got)
	}
}

// oneFieldChanged has m with each field in its turn changed, by little and by much.
func oneFieldChanged(m impl.Msg) []impl.Msg {
	out := []impl.Msg{}
	add := func(change func(x *impl.Msg)) {
		x := cloneMsg(m)
		change(&x)
		out = append(out, x)
	}
	for _, n := range []int{1, -1, 16, 256, 1 << 16, 1 << 32} {
		add(func(x *impl.Msg) { x.Id += n })
		add(func(x *impl.Msg) { x.Code += n })
		add(func(x *impl.Msg) { x.Q.Type += n })
	}
	add(func(x *impl.Msg) { x.Reply = !x.Reply })
	add(func(x *impl.Msg) { x.Auth = !x.Auth })
	add(func(x *impl.Msg) { x.Cut = !x.Cut })
	add(func(x *impl.Msg) { x.Want = !x.Want })
	add(func(x *impl.Msg) { x.Can = !x.Can })
	add(func(x *impl.Msg) { x.Q.Name += "x" })
	add(func(x *impl.Msg) { x.Q.Name = strings.ToUpper(x.Q.Name) + "." })
	for section := range sectionNames {
		add(func(x *impl.Msg) { l := sectionsIn(x)[section]; *l = append(*l, impl.Record{}) })
		add(func(x *impl.Msg) { l := sectionsIn(x)[section]; *l = append(records(1), *l...) })
		l := *sectionsIn(&m)[section]
		if len(l) == 0 {
			continue
		}
		add(func(x *impl.Msg) { *sectionsIn(x)[section] = nil })
		add(func(x *impl.Msg) { *sectionsIn(x)[section] = l[1:] })
		add(func(x *impl.Msg) { *sectionsIn(x)[section] = l[:len(l)-1] })
		for at := range l {
			add(func(x *impl.Msg) { (*sectionsIn(x)[section])[at].Name += "x" })
			add(func(x *impl.Msg) { (*sectionsIn(x)[section])[at].Type++ })
			add(func(x *impl.Msg) { (*sectionsIn(x)[section])[at].Ttl++ })
			add(func(x *impl.Msg) { (*sectionsIn(x)[section])[at].N++ })
			add(func(x *impl.Msg) { (*sectionsIn(x)[section])[at].Host += "x" })
			add(func(x *impl.Msg) { (*sectionsIn(x)[section])[at].Text += "x" })
		}
	}
	return out
}

func TestSameMsg(t *testing.T) {
	for _, m := range append(goodMsgs(), badMsgs()...) {
		wantSame(t, m, m, true)
		wantSame(t, m, cloneMsg(m), true)
	}
	start := impl.Msg{Id: 20, Code: 2, Q: impl.Quest{Name: "com", Type: impl.TyAlias}}
	crowded := full()
	for _, l := range sectionsIn(&crowded) {
		*l = records(impl.MaxList)
	}
	for _, m := range append(flagged(full()), start, crowded, impl.Msg{}, with(full(), 1, records(20))) {
		for _, other := range oneFieldChanged(m) {
			wantSame(t, m, other, false)
		}
	}
}

// Records in another section or in another order make another message.
func TestSameMsgLooksAtSections(t *testing.T) {
	l := records(3)
	orders := []impl.Msg{}
	for _, order := range [][]int{{0, 1, 2}, {0, 2, 1}, {1, 0, 2}, {1, 2, 0}, {2, 0, 1}, {2, 1, 0}} {
		m := full()
		m.An, m.Au, m.Ad = l[order[0]:order[0]+1], l[order[1]:order[1]+1], l[order[2]:order[2]+1]
		orders = append(orders, m)
	}
	for an := range 4 {
		for au := range 4 - an {
			m := full()
			m.An, m.Au, m.Ad = l[:an], l[an:an+au], l[an+au:]
			orders = append(orders, m)
		}
	}
	for i, a := range orders {
		for j, b := range orders {
			wantSame(t, a, b, i == j || modelSame(a, b))
		}
	}
	for section := range sectionNames {
		turned := records(4)
		slices.Reverse(turned)
		wantSame(t, with(full(), section, records(4)), with(full(), section, turned), false)
	}
}

func TestSameMsgOfAllPairs(t *testing.T) {
	all := append(flagged(full()), flagged(impl.AskMsg(7, impl.Quest{Name: "ex.com", Type: impl.TyText}))...)
	all = append(all, oneFieldChanged(full())...)
	all = append(all, oneFieldChanged(impl.Msg{})...)
	for _, a := range all {
		for _, b := range all {
			if got, want := impl.SameMsg(a, b), modelSame(a, b); got != want {
				t.Fatalf("SameMsg(%#v, %#v) = %v", a, b, got)
			}
		}
	}
}

// A reply is not the query, although it has its Id, its question and its Want flag.
func TestReplyIsNotItsQuery(t *testing.T) {
	for _, q := range goodQuests() {
		m := impl.AskMsg(3, q)
		wantSame(t, m, impl.ReplyTo(m, 0, false, nil, nil, nil), false)
		wantSame(t, impl.ReplyTo(m, 1, true, nil, records(1), nil), impl.ReplyTo(m, 1, true, nil, records(1), nil), true)
	}
}

// spare has records in each section and others beyond its length.
func spare(length int) (impl.Msg, [][]impl.Record) {
	wholes := [][]impl.Record{records(12), records(12), records(12)}
	m := full()
	for section, l := range sectionsIn(&m) {
		*l = wholes[section][:length]
	}
	return m, wholes
}

func allEqual(lists [][]impl.Record, want []impl.Record) bool {
	return !slices.ContainsFunc(lists, func(l []impl.Record) bool { return !slices.Equal(l, want) })
}

func TestMessagesAreNotChanged(t *testing.T) {
	for length := range 12 {
		m, wholes := spare(length)
		other, others := spare(length)
		impl.MsgOk(m)
		impl.MsgText(m)
		impl.CountsOf(m)
		impl.SameMsg(m, other)
		impl.ReplyTo(m, 0, true, m.An, m.Au, m.Ad)
		if !allEqual(wholes, records(12)) || !allEqual(others, records(12)) {
			t.Errorf("an argument with sections of %d records was changed", length)
		}
		want, _ := spare(length)
		wantMsg(t, "the argument", m, want)
	}
}

// checkReplySharing fails if the sections of a reply share memory with the
// lists that it is made from, with each other, or with those of another reply.
func checkReplySharing(t *testing.T, m impl.Msg, wholes [][]impl.Record, length int) {
	t.Helper()
	before := [][]impl.Record{slices.Clone(wholes[0]), slices.Clone(wholes[1]), slices.Clone(wholes[2])}
	reply := func() impl.Msg {
		return impl.ReplyTo(m, 0, true, wholes[0][:length], wholes[1][:length], wholes[2][:length])
	}
	out, other := reply(), reply()
	want := cloneMsg(other)
	for section, l := range sectionsIn(&out) {
		fillRecords((*l)[:cap(*l)], sectionNames[section])
		for i, whole := range wholes {
			if !slices.Equal(whole, before[i]) {
				t.Errorf("%s of a reply shares memory with a list of %d records", sectionNames[section], length)
			}
		}
		for later := section + 1; later < len(sectionNames); later++ {
			if !slices.Equal(*sectionsIn(&out)[later], before[later][:length]) {
				t.Errorf("%s and %s of a reply share memory", sectionNames[section], sectionNames[later])
			}
		}
	}
	wantMsg(t, "another reply", other, want)
	for _, whole := range wholes {
		fillRecords(whole, "y")
	}
	wantMsg(t, "another reply", other, want)
}

func TestReplyToSharesNoMemory(t *testing.T) {
	for length := range 12 {
		m, wholes := spare(length)
		checkReplySharing(t, m, wholes, length)
		one := records(12)
		checkReplySharing(t, impl.AskMsg(1, m.Q), [][]impl.Record{one, one, one}, length)
	}
}

// What is put into the sections of one query is not in another one.
func TestAskMsgSharesNoMemory(t *testing.T) {
	q := impl.Quest{Name: "ex.com", Type: impl.TyAddr}
	out, other := impl.AskMsg(1, q), impl.AskMsg(1, q)
	for _, l := range sectionsIn(&out) {
		fillRecords((*l)[:cap(*l)], "x")
		*l = append(*l, records(3)...)
	}
	wantMsg(t, "another query", other, impl.Msg{Id: 1, Q: q})
	wantMsg(t, "a later query", impl.AskMsg(1, q), impl.Msg{Id: 1, Q: q})
}

func TestNilAndEmptySectionsAreTheSame(t *testing.T) {
	empty := []impl.Record{}
	for section := range sectionNames {
		for _, m := range []impl.Msg{full(), impl.AskMsg(1, impl.Quest{Type: impl.TyAddr}), {}} {
			a, b, c := with(m, section, nil), with(m, section, empty), with(m, section, records(3)[:0])
			wantSame(t, a, b, true)
			wantSame(t, a, c, true)
			wantSame(t, b, c, true)
			wantOk(t, a, impl.MsgOk(b))
			wantOk(t, c, impl.MsgOk(b))
			if impl.CountsOf(a) != impl.CountsOf(b) || impl.MsgText(a) != impl.MsgText(b) {
				t.Errorf("%#v and %#v", a, b)
			}
		}
	}
	m := impl.AskMsg(1, impl.Quest{Name: "a", Type: impl.TyAddr})
	wantSame(t, impl.ReplyTo(m, 0, true, nil, nil, nil), impl.ReplyTo(m, 0, true, empty, empty, empty), true)
}

// An invalid message has no text; the other functions take it like a valid one.
func TestInvalidMessages(t *testing.T) {
	for _, m := range badMsgs() {
		if impl.MsgOk(m) || impl.MsgText(m) != "" {
			t.Errorf("MsgOk(%s) = %v, MsgText = %.300q", brief(m), impl.MsgOk(m), impl.MsgText(m))
		}
		wantSame(t, m, cloneMsg(m), true)
		wantSame(t, m, full(), modelSame(m, full()))
		reply := impl.ReplyTo(m, 2, false, nil, m.Au, nil)
		wantMsg(t, "ReplyTo", reply, impl.Msg{Id: m.Id, Reply: true, Want: m.Want, Code: 2, Q: m.Q, Au: m.Au})
		if got := impl.CountsOf(reply); got != len(m.Au) {
			t.Errorf("CountsOf = %d, want %d", got, len(m.Au))
		}
	}
}
