package tests

import (
	"math"
	"slices"
	"testing"

	"loop.example/g00497/impl"
)

// servedKinds has what the replies of each kind have, in the order of the kinds.
var servedKinds = []struct {
	text string
	code int
	auth bool
}{
	{"not", 5, false}, {"down", 0, false}, {"alias", 0, true}, {"set", 0, true}, {"nodata", 0, true}, {"noname", 3, true},
}

// served is what a server says about a question.
type served struct {
	kind int
	an   []impl.Record
	au   []impl.Record
	ad   []impl.Record
}

// modelServed asks for one thing after the other, without the program.
func modelServed(z impl.Zone, q impl.Quest) served {
	if !modelUnder(q.Name, z.Apex) {
		return served{kind: impl.SvNot}
	}
	for _, cut := range modelCuts(z) {
		if modelUnder(q.Name, cut) {
			out := served{kind: impl.SvDown, au: modelSet(z.L, cut, impl.TyServer)}
			for _, host := range modelHosts(out.au) {
				out.ad = append(out.ad, modelSet(z.L, host, impl.TyAddr)...)
			}
			return out
		}
	}
	if l := modelSet(z.L, q.Name, impl.TyAlias); len(l) > 0 && q.Type != impl.TyAlias {
		return served{kind: impl.SvAlias, an: l}
	}
	if l := modelSet(z.L, q.Name, q.Type); len(l) > 0 {
		return served{kind: impl.SvSet, an: l}
	}
	out := served{kind: impl.SvNoName, au: []impl.Record{modelStart(z.L)}}
	if slices.ContainsFunc(z.L, func(r impl.Record) bool { return modelUnder(r.Name, q.Name) }) {
		out.kind = impl.SvNoData
	}
	return out
}

func firstEight(l []impl.Record) []impl.Record {
	return slices.Clone(l[:min(len(l), 8)])
}

// reply is the reply to a message about this question.
func (s served) reply(m impl.Msg) impl.Msg {
	kind := servedKinds[s.kind]
	return impl.Msg{Id: m.Id, Reply: true, Auth: kind.auth, Want: m.Want, Code: kind.code, Q: m.Q, An: firstEight(s.an), Au: firstEight(s.au), Ad: firstEight(s.ad)}
}

func (s served) equals(other served) bool {
	return s.kind == other.kind && slices.Equal(s.an, other.an) && slices.Equal(s.au, other.au) && slices.Equal(s.ad, other.ad)
}

// wantServed fails if the kind, a list or a reply of the zone is not as stated,
// or if promise 11 does not hold for the reply.
func wantServed(t *testing.T, z impl.Zone, q impl.Quest, want served) {
	t.Helper()
	got := served{kind: impl.KindIn(z, q), an: impl.AnswerIn(z, q), au: impl.MoreIn(z, q), ad: impl.HelpIn(z, q)}
	if !got.equals(want) {
		t.Errorf("%s of %s gets %s, want %s", brief(q), brief(z), brief(got), brief(want))
	}
	m := impl.AskMsg(7, q)
	reply := impl.Serve(z, m)
	if !modelSame(reply, want.reply(m)) {
		t.Errorf("Serve of %s in %s = %s, want %s", brief(q), brief(z), brief(reply), brief(want.reply(m)))
	}
	if reply.Auth != impl.InZone(z, q.Name) || !reply.Auth && len(reply.An) > 0 {
		t.Errorf("Serve of %s in %s = %s", brief(q), brief(z), brief(reply))
	}
}

// wantKind is wantServed for the records that follow from the kind by the model.
func wantKind(t *testing.T, z impl.Zone, name string, ty int, kind int) {
	t.Helper()
	q := impl.Quest{Name: name, Type: ty}
	if model := modelServed(z, q); model.kind != kind {
		t.Fatalf("the model of %s in %s is %d, want %d", brief(q), brief(z), model.kind, kind)
	}
	wantServed(t, z, q, modelServed(z, q))
}

// askedTypes are all types, and some numbers that are none.
func askedTypes() []int {
	return append(recordTypes(), 0, 3, -1, 17, math.MaxInt)
}

func wantServedAsModel(t *testing.T, z impl.Zone, names []string, types []int) {
	t.Helper()
	for _, name := range names {
		for _, ty := range types {
			q := impl.Quest{Name: name, Type: ty}
			wantServed(t, z, q, modelServed(z, q))
		}
	}
}

// servedZones are the valid zones of several records.
func servedZones() []impl.Zone {
	return []impl.Zone{uncutZone(), cutZone(), rootZone(), fullZone(impl.MaxZone)}
}

// eachKind has a question of every kind in cutZone, in the order of the kinds.
func eachKind() []impl.Quest {
	return []impl.Quest{
		{Name: "org", Type: impl.TyAddr}, {Name: "www.ex.com", Type: impl.TyAddr}, {Name: "al.com", Type: impl.TyAddr},
		{Name: "ns.com", Type: impl.TyAddr}, {Name: "ns.com", Type: impl.TyText}, {Name: "none.com", Type: impl.TyAddr},
	}
}

func TestKinds(t *testing.T) {
	if l := []int{impl.SvNot, impl.SvDown, impl.SvAlias, impl.SvSet, impl.SvNoData, impl.SvNoName}; !slices.Equal(l, []int{0, 1, 2, 3, 4, 5}) {
		t.Error(l)
	}
}

func TestKindText(t *testing.T) {
	for kind, want := range servedKinds {
		if got := impl.KindText(kind); got != want.text {
			t.Errorf("KindText(%d) = %q", kind, got)
		}
	}
	others := []int{-1, -2, -5, -6, 6, 7, 8, 16, 255, 256, 257, 258, 1 << 16, 1 << 32, 1<<32 + 1, math.MaxInt, math.MaxInt - 1, math.MinInt, math.MinInt + 1}
	for _, n := range others {
		if got := impl.KindText(n); got != "" {
			t.Errorf("KindText(%d) = %q", n, got)
		}
	}
}

func TestEachKind(t *testing.T) {
	z, l := cutZone(), eachKind()
	first := []impl.Record{start("com", 60, 30)}
	down := []impl.Record{server("ex.com", 30, "ns.ex.com"), server("ex.com", 30, "ns.com")}
	help := []impl.Record{addr("ns.ex.com", 60, 3), addr("ns.ex.com", 60, 4), addr("ns.com", 60, 2)}
	wantServed(t, z, l[0], served{kind: impl.SvNot})
	wantServed(t, z, l[1], served{kind: impl.SvDown, au: down, ad: help})
	wantServed(t, z, l[2], served{kind: impl.SvAlias, an: []impl.Record{alias("al.com", 60, "www.ex.com")}})
	wantServed(t, z, l[3], served{kind: impl.SvSet, an: []impl.Record{addr("ns.com", 60, 2)}})
	wantServed(t, z, l[4], served{kind: impl.SvNoData, au: first})
	wantServed(t, z, l[5], served{kind: impl.SvNoName, au: first})
}

// The text of the whole reply of every kind.
func TestTextsOfReplies(t *testing.T) {
	want := []string{
		"reply 7 5 org addr",
		"reply 7 0 www.ex.com addr; ex.com 30 server ns.ex.com; ex.com 30 server ns.com; ns.ex.com 60 addr 3; ns.ex.com 60 addr 4; ns.com 60 addr 2",
		"reply 7 0 al.com addr auth; al.com 60 alias www.ex.com",
		"reply 7 0 ns.com addr auth; ns.com 60 addr 2",
		"reply 7 0 ns.com text auth; com 60 start ns.com 30",
		"reply 7 3 none.com addr auth; com 60 start ns.com 30",
	}
	for kind, q := range eachKind() {
		if got := impl.MsgText(impl.Serve(cutZone(), impl.AskMsg(7, q))); got != want[kind] {
			t.Errorf("%s\nwant %s", got, want[kind])
		}
	}
}

// Every combination of what a kind asks for: the first kind that applies counts.
func TestFirstKindThatApplies(t *testing.T) {
	name := "a.com"
	for bits := range 32 {
		l := []impl.Record{start("com", 60, 30), server("com", 60, "ns.com")}
		above, cut, named, set, below := bits&1 != 0, bits&2 != 0, bits&4 != 0, bits&8 != 0, bits&16 != 0
		if below {
			l = append(l, text("x."+name, 60, "hi"))
		}
		if set {
			l = append(l, addr(name, 60, 1), addr(name, 60, 2))
		}
		if named {
			l = append(l, alias(name, 60, "org"))
		}
		if cut {
			l = append(l, server(name, 60, "ns.com"))
		}
		apex, kind := "com", impl.SvNoName
		switch {
		case above:
			apex, kind = "b.a.com", impl.SvNot
		case cut:
			kind = impl.SvDown
		case named:
			kind = impl.SvAlias
		case set:
			kind = impl.SvSet
		case below:
			kind = impl.SvNoData
		}
		for _, z := range []impl.Zone{{Apex: apex, L: l}, sortedZone(apex, l...), {Apex: apex, L: slices.Repeat(l, 3)}} {
			wantKind(t, z, name, impl.TyAddr, kind)
		}
	}
}

// A name without records that has subdomains exists, and so does one that has
// records of other types.
func TestNameWithoutData(t *testing.T) {
	z := uncutZone()
	first := []impl.Record{start("ex.com", 60, 30)}
	for _, ty := range askedTypes() {
		wantServed(t, z, impl.Quest{Name: "b.ex.com", Type: ty}, served{kind: impl.SvNoData, au: first})
		wantServed(t, z, impl.Quest{Name: "bb.ex.com", Type: ty}, served{kind: impl.SvNoName, au: first})
		wantServed(t, z, impl.Quest{Name: "x.a.b.ex.com", Type: ty}, served{kind: impl.SvNoName, au: first})
		if ty != impl.TyAddr {
			wantServed(t, z, impl.Quest{Name: "a.b.ex.com", Type: ty}, served{kind: impl.SvNoData, au: first})
			wantServed(t, z, impl.Quest{Name: "ns.ex.com", Type: ty}, served{kind: impl.SvNoData, au: first})
		}
	}
	deep := withMore(smallest("com"), text("e.d.c.b.com", 60, "hi"))
	for _, name := range []string{"b.com", "c.b.com", "d.c.b.com"} {
		wantKind(t, deep, name, impl.TyText, impl.SvNoData)
		wantKind(t, deep, "x."+name, impl.TyText, impl.SvNoName)
		wantKind(t, deep, "x"+name, impl.TyText, impl.SvNoName)
	}
	wantKind(t, deep, "e.d.c.b.com", impl.TyText, impl.SvSet)
	wantKind(t, deep, "e.d.c.b.com", impl.TyAddr, impl.SvNoData)
}

// A name also exists because of a cut under it, and of an alias under it.
func TestNameAboveCutOrAlias(t *testing.T) {
	for _, ty := range askedTypes() {
		wantKind(t, rootZone(), "uk", ty, impl.SvNoData)
		wantKind(t, rootZone(), "a.net", ty, impl.SvNoData)
		wantKind(t, rootZone(), "b.net", ty, impl.SvNoName)
		wantKind(t, rootZone(), "x.uk", ty, impl.SvNoName)
		wantKind(t, withMore(smallest("com"), alias("x.a.com", 60, "org")), "a.com", ty, impl.SvNoData)
	}
}

func TestAlias(t *testing.T) {
	z := uncutZone()
	for _, name := range []string{"al.ex.com", "xb.ex.com"} {
		for _, ty := range askedTypes() {
			kind := impl.SvAlias
			if ty == impl.TyAlias {
				kind = impl.SvSet
			}
			wantServed(t, z, impl.Quest{Name: name, Type: ty}, served{kind: kind, an: modelSet(z.L, name, impl.TyAlias)})
		}
	}
	for _, name := range []string{"ex.com", "www.ex.com", "x.al.ex.com", "b.ex.com"} {
		wantKind(t, z, name, impl.TyAlias, impl.SvNoData)
	}
	for _, name := range []string{"l.ex.com", "y.al.ex.com", "xal.ex.com", "x.xb.ex.com"} {
		wantKind(t, z, name, impl.TyAlias, impl.SvNoName)
	}
}

// Where an alias stands with other records, as in no valid zone, all aliases of
// the name come instead of them.
func TestAliasWithOtherRecords(t *testing.T) {
	for _, apex := range []string{"com", "al.com"} {
		two := []impl.Record{alias("al.com", 60, "org"), alias("al.com", 50, "a.org")}
		z := impl.Zone{Apex: apex, L: slices.Concat(oneOfEach("al.com"), two, []impl.Record{{Name: "al.com", Type: 3}, alias("com", 60, "org")})}
		if apex != "al.com" {
			z.L = slices.DeleteFunc(z.L, func(r impl.Record) bool { return r.Type == impl.TyServer })
		}
		for _, ty := range askedTypes() {
			kind := impl.SvAlias
			if ty == impl.TyAlias {
				kind = impl.SvSet
			}
			wantServed(t, z, impl.Quest{Name: "al.com", Type: ty}, served{kind: kind, an: []impl.Record{alias("al.com", 60, "www.ex.com"), two[0], two[1]}})
		}
	}
}

// All names under a cut get the servers of the cut, whatever records they have
// in the zone; the cut itself is under it.
func TestNamesUnderCut(t *testing.T) {
	z := cutZone()
	down := served{kind: impl.SvDown, au: modelSet(z.L, "ex.com", impl.TyServer), ad: []impl.Record{addr("ns.ex.com", 60, 3), addr("ns.ex.com", 60, 4), addr("ns.com", 60, 2)}}
	odd := impl.Zone{Apex: "com", L: slices.Concat(z.L, oneOfEach("b.ex.com")[2:], oneOfEach("ex.com")[2:])}
	for _, name := range []string{"ex.com", "ns.ex.com", "b.ex.com", "a.b.ex.com", "www.ex.com", "x.ns.ex.com", "ex.com.ex.com"} {
		for _, ty := range askedTypes() {
			wantServed(t, z, impl.Quest{Name: name, Type: ty}, down)
			wantServed(t, odd, impl.Quest{Name: name, Type: ty}, down)
		}
	}
	wantKind(t, z, "xex.com", impl.TyText, impl.SvSet)
	wantKind(t, z, "x.xex.com", impl.TyText, impl.SvNoName)
	wantKind(t, z, "com", impl.TyServer, impl.SvSet)
}

// The zone has the addresses of some servers of a cut, also of such that are not
// under the cut, and not of others.
func TestServersOfCut(t *testing.T) {
	z := withMore(smallest("com"), addr("ns.com", 60, 2), addr("ns.a.com", 60, 3), addr("ns.b.com", 60, 4), addr("ns.b.com", 60, 5), addr("a.com", 60, 6), alias("al.com", 60, "ns.com"), addr("", 60, 7))
	for _, c := range []struct {
		hosts []string
		help  []impl.Record
	}{
		{[]string{"ns.a.com"}, []impl.Record{addr("ns.a.com", 60, 3)}},
		{[]string{"ns.org"}, nil},
		{[]string{"ns.org", "x.ns.com", "s.com", "none.com"}, nil},
		{[]string{"ns.com", "ns.org", "ns.b.com"}, []impl.Record{addr("ns.com", 60, 2), addr("ns.b.com", 60, 4), addr("ns.b.com", 60, 5)}},
		{[]string{"ns.b.com", "ns.org", "ns.com"}, []impl.Record{addr("ns.b.com", 60, 4), addr("ns.b.com", 60, 5), addr("ns.com", 60, 2)}},
		{[]string{"al.com", "com"}, nil},
		{[]string{"a.com", "ns.a.com"}, []impl.Record{addr("a.com", 60, 6), addr("ns.a.com", 60, 3)}},
		{[]string{"ns.b.com", "ns.com", "ns.b.com", "ns.com"}, []impl.Record{addr("ns.b.com", 60, 4), addr("ns.b.com", 60, 5), addr("ns.com", 60, 2)}},
		{[]string{""}, []impl.Record{addr("", 60, 7)}},
	} {
		servers := []impl.Record{}
		for _, host := range c.hosts {
			servers = append(servers, server("a.com", 60, host))
		}
		for _, l := range [][]impl.Record{slices.Concat(z.L, servers), slices.Concat(servers, z.L)} {
			for _, name := range []string{"a.com", "www.a.com", "ns.a.com"} {
				wantServed(t, impl.Zone{Apex: "com", L: l}, impl.Quest{Name: name, Type: impl.TyAddr}, served{kind: impl.SvDown, au: servers, ad: c.help})
			}
		}
	}
}

// Of several cuts that a name is under, the first one in record order counts.
func TestCutsBelowCuts(t *testing.T) {
	names := []string{"com", "a.com", "x.a.com", "b.a.com", "x.b.a.com", "c.b.a.com", "d.c.b.a.com", "x.d.c.b.a.com", "b.com", "none.com", "org", ""}
	for _, z := range nestedZones() {
		wantServedAsModel(t, z, names, []int{impl.TyAddr, impl.TyServer})
	}
	upper, lower := server("a.com", 60, "ns.a.com"), server("b.a.com", 60, "ns.b.a.com")
	help := []impl.Record{addr("ns.a.com", 60, 1), addr("ns.b.a.com", 60, 2)}
	q := impl.Quest{Name: "www.b.a.com", Type: impl.TyAddr}
	wantServed(t, impl.Zone{Apex: "com", L: append(help, upper, lower)}, q, served{kind: impl.SvDown, au: []impl.Record{upper}, ad: help[:1]})
	wantServed(t, impl.Zone{Apex: "com", L: append(help, lower, upper)}, q, served{kind: impl.SvDown, au: []impl.Record{lower}, ad: help[1:]})
	wantServed(t, impl.Zone{Apex: "a.com", L: append(help, upper, lower)}, q, served{kind: impl.SvDown, au: []impl.Record{lower}, ad: help[1:]})
}

// The apex is in the zone although it has servers, and so is the root.
func TestApex(t *testing.T) {
	for _, z := range goodZones() {
		for _, ty := range []int{impl.TyStart, impl.TyServer} {
			wantServed(t, z, impl.Quest{Name: z.Apex, Type: ty}, served{kind: impl.SvSet, an: modelSet(z.L, z.Apex, ty)})
		}
		wantKind(t, z, z.Apex, impl.TyAlias, impl.SvNoData)
		wantKind(t, z, z.Apex, 3, impl.SvNoData)
		if z.Apex != "" {
			wantServed(t, z, impl.Quest{Name: impl.Up(z.Apex), Type: impl.TyServer}, served{kind: impl.SvNot})
			wantServed(t, z, impl.Quest{Name: "x" + z.Apex, Type: impl.TyServer}, served{kind: impl.SvNot})
		}
	}
	wantKind(t, smallest("com"), "com", impl.TyAddr, impl.SvNoData)
	wantKind(t, smallest("com"), "x.com", impl.TyServer, impl.SvNoName)
}

func TestRootIsServed(t *testing.T) {
	z := rootZone()
	wantServed(t, z, impl.Quest{Name: "", Type: impl.TyAddr}, served{kind: impl.SvSet, an: []impl.Record{addr("", 60, 1)}})
	wantServed(t, z, impl.Quest{Name: "", Type: impl.TyAlias}, served{kind: impl.SvNoData, au: []impl.Record{start("", 60, 30)}})
	wantServed(t, z, impl.Quest{Name: "none", Type: impl.TyAddr}, served{kind: impl.SvNoName, au: []impl.Record{start("", 60, 30)}})
	wantServed(t, z, impl.Quest{Name: "b.a.net", Type: impl.TyAddr}, served{kind: impl.SvDown, au: []impl.Record{server("b.a.net", 60, "")}, ad: []impl.Record{addr("", 60, 1)}})
	wantServed(t, z, impl.Quest{Name: "com", Type: impl.TyServer}, served{kind: impl.SvDown, au: []impl.Record{server("com", 60, "ns.com")}, ad: []impl.Record{addr("ns.com", 60, 2)}})
	wantServed(t, smallest("com"), impl.Quest{Name: "", Type: impl.TyAddr}, served{kind: impl.SvNot})
	for _, name := range append(someNames(), someBadNames()...) {
		if impl.KindIn(z, impl.Quest{Name: name, Type: impl.TyAddr}) == impl.SvNot {
			t.Errorf("%s is not under the root", brief(name))
		}
	}
}

// Nothing is said about names that are not under the apex, although the zone
// has records of them.
func TestNamesNotUnderApex(t *testing.T) {
	l := []impl.Record{start("com", 60, 30), server("com", 60, "ns.org"), addr("ns.org", 60, 1), alias("al.org", 60, "com"), server("org", 60, "ns.org"), addr("", 60, 2), addr("x.com.org", 60, 3)}
	for _, apex := range []string{"com", "a.com", "ns.com"} {
		for _, name := range []string{"", "org", "ns.org", "al.org", "x.org", "xcom", "comx", "co", "com.org", "x.com.org", "COM", "com.", "ns.orgx"} {
			for _, ty := range askedTypes() {
				wantServed(t, impl.Zone{Apex: apex, L: l}, impl.Quest{Name: name, Type: ty}, served{kind: impl.SvNot})
				wantServed(t, impl.Zone{Apex: apex}, impl.Quest{Name: name, Type: ty}, served{kind: impl.SvNot})
			}
		}
	}
}

// Of each section, and of it alone, the first MaxList records are in the reply;
// the lists themselves are not shortened.
func TestReplyWithManyRecords(t *testing.T) {
	if impl.MaxList != 8 {
		t.Error(impl.MaxList)
	}
	for _, n := range []int{1, 7, 8, 9, 10, 16, 17, 100} {
		set, aliases, servers, help, onehelp := []impl.Record{}, []impl.Record{}, []impl.Record{}, []impl.Record{}, []impl.Record{}
		for i := range n {
			host := "ns" + impl.NumText(i) + ".com"
			set = append(set, addr("a.com", 60, i))
			aliases = append(aliases, alias("al.com", 60, host))
			servers = append(servers, server("b.com", 60, host))
			help = append(help, addr(host, 60, i))
			onehelp = append(onehelp, addr("ns.com", 60, i))
		}
		z := impl.Zone{Apex: "com", L: slices.Concat(smallest("com").L, set, aliases, servers, help, []impl.Record{server("c.com", 60, "ns.com")}, onehelp)}
		wantServed(t, z, impl.Quest{Name: "a.com", Type: impl.TyAddr}, served{kind: impl.SvSet, an: set})
		wantServed(t, z, impl.Quest{Name: "al.com", Type: impl.TyAddr}, served{kind: impl.SvAlias, an: aliases})
		wantServed(t, z, impl.Quest{Name: "al.com", Type: impl.TyAlias}, served{kind: impl.SvSet, an: aliases})
		wantServed(t, z, impl.Quest{Name: "b.com", Type: impl.TyAddr}, served{kind: impl.SvDown, au: servers, ad: help})
		wantServed(t, z, impl.Quest{Name: "c.com", Type: impl.TyAddr}, served{kind: impl.SvDown, au: z.L[len(z.L)-n-1 : len(z.L)-n], ad: onehelp})
		short := impl.Serve(z, impl.AskMsg(1, impl.Quest{Name: "b.com", Type: impl.TyAddr}))
		wantOk(t, short, true)
		wantList(t, "Au", short.Au, servers[:min(n, 8)])
		wantList(t, "Ad", short.Ad, help[:min(n, 8)])
	}
}

// Servers that do not fit into the reply are asked for their addresses, too.
func TestHelpOfServersBeyondTheReply(t *testing.T) {
	z := withMore(smallest("com"), addr("h8.com", 60, 1), addr("h9.com", 60, 2))
	for i := range 10 {
		z.L = append(z.L, server("b.com", 60, "h"+impl.NumText(i)+".com"))
	}
	reply := impl.Serve(z, impl.AskMsg(1, impl.Quest{Name: "b.com", Type: impl.TyAddr}))
	wantList(t, "Au", reply.Au, z.L[4:12])
	wantList(t, "Ad", reply.Ad, []impl.Record{addr("h8.com", 60, 1), addr("h9.com", 60, 2)})
}

// Valid zones have more records than fit into a section.
func TestReplyOfFullZone(t *testing.T) {
	set, cut := fullZone(impl.MaxZone), smallest("com")
	for i := range 9 {
		host := "ns" + impl.NumText(i) + ".com"
		cut = withMore(cut, server("a.com", 60, host), addr(host, 60, i))
	}
	q := impl.Quest{Name: "a.com", Type: impl.TyAddr}
	for _, z := range []impl.Zone{set, cut} {
		wantZone(t, "a full zone", z, true)
		wantServed(t, z, q, modelServed(z, q))
		wantOk(t, impl.Serve(z, impl.AskMsg(1, q)), true)
	}
	wantList(t, "An", impl.Serve(set, impl.AskMsg(1, q)).An, modelSet(set.L, "a.com", impl.TyAddr)[:8])
	reply := impl.Serve(cut, impl.AskMsg(1, q))
	wantList(t, "Au", reply.Au, modelSet(cut.L, "a.com", impl.TyServer)[:8])
	if len(impl.MoreIn(cut, q)) != 9 || len(impl.HelpIn(cut, q)) != 9 || len(reply.Ad) != 8 {
		t.Errorf("Serve = %s", brief(reply))
	}
}

// Promise 11, for valid zones and all questions: the reply is authoritative for
// the names in the zone alone, and it is valid if the query is.
func TestServerIsAuthoritativeForItsZone(t *testing.T) {
	for _, z := range servedZones() {
		for _, name := range append(zoneNames(z), someNames()...) {
			for _, ty := range recordTypes() {
				q := impl.Quest{Name: name, Type: ty}
				wantServed(t, z, q, modelServed(z, q))
				reply := impl.Serve(z, impl.AskMsg(7, q))
				wantOk(t, reply, impl.QuestOk(q))
				for _, r := range slices.Concat(reply.An, reply.Au, reply.Ad) {
					if !slices.Contains(z.L, r) {
						t.Errorf("%s is not in %s", brief(r), brief(z))
					}
				}
				cut, down := impl.CutOf(z, name)
				for _, r := range reply.Au {
					if down && r.Name != cut || !down && r.Name != z.Apex {
						t.Errorf("Serve of %s in %s has %s", brief(q), brief(z), brief(r))
					}
				}
			}
		}
	}
}

func TestServedAsInTheModel(t *testing.T) {
	for _, z := range append(badZones(), goodZones()[:20]...) {
		wantServedAsModel(t, z, zoneNames(z), []int{impl.TyAddr, impl.TyServer, impl.TyAlias, 3})
	}
	for _, z := range append(servedZones(), nestedZones()[0], impl.Zone{}, impl.Zone{Apex: "."}, impl.Zone{Apex: "A", L: invalidMixture()}, impl.Zone{L: mixture()}) {
		wantServedAsModel(t, z, append(someNames(), badNames()...), []int{impl.TyAddr, impl.TyText})
	}
	for _, q := range append(badQuests()[:300], goodQuests()[:60]...) {
		for _, z := range []impl.Zone{rootZone(), cutZone(), {L: invalidMixture()}, {Apex: q.Name, L: []impl.Record{{Name: q.Name, Type: q.Type, N: 3}, addr("x."+q.Name, 60, 1)}}} {
			wantServed(t, z, q, modelServed(z, q))
		}
	}
}

// Zones of few names, so that questions of all kinds occur often.
func TestDrawnQuestions(t *testing.T) {
	next := draws(11)
	names := []string{"", "com", "ex.com", "a.ex.com", "b.a.ex.com", "xex.com", "org"}
	counts := make([]int, len(servedKinds))
	for range 4000 {
		l := []impl.Record{}
		for range next(9) {
			name := names[next(len(names))]
			kinds := []impl.Record{addr(name, 60, next(3)), addr(name, 60, next(3)), server(name, 60, names[next(len(names))]), text(name, 60, "a"), alias(name, 60, names[next(3)]), start(name, 60, next(2)), {Name: name}}
			l = append(l, kinds[next(len(kinds))])
		}
		z := impl.Zone{Apex: names[next(4)], L: l}
		for range 4 {
			q := impl.Quest{Name: names[next(len(names))], Type: askedTypes()[next(6)]}
			want := modelServed(z, q)
			counts[want.kind]++
			wantServed(t, z, q, want)
		}
	}
	if slices.Min(counts) < 500 {
		t.Errorf("the kinds occur %v times", counts)
	}
}

// Of the query, Id, question and Want are in the reply, and nothing else, also
// if it is invalid or a reply itself.
func TestServeOfAllMessages(t *testing.T) {
	messages := append(flagged(full()), badMsgs()[:40]...)
	for _, m := range goodMsgs()[:100] {
		messages = append(messages, m, with(m, 0, records(9)))
	}
	for _, id := range append(outOfRange(impl.MaxTwo), 0, 1, impl.MaxTwo) {
		messages = append(messages, impl.Msg{Id: id}, impl.Msg{Id: id, Want: true, Reply: true, Code: 16, Ad: badRecords()[:20]})
	}
	for _, m := range messages {
		for _, q := range append(eachKind(), m.Q, impl.Quest{Name: "A..", Type: -1}) {
			m.Q = q
			wantMsg(t, "Serve", impl.Serve(cutZone(), m), modelServed(cutZone(), q).reply(m))
		}
	}
}

// StartOf of a zone without a start of authority is the zero record, and it is
// in the reply like any other.
func TestServeWithoutStart(t *testing.T) {
	zero := []impl.Record{{}}
	z := impl.Zone{Apex: "com", L: []impl.Record{server("com", 60, "ns.com"), addr("x.a.com", 60, 1)}}
	wantServed(t, z, impl.Quest{Name: "com", Type: impl.TyStart}, served{kind: impl.SvNoData, au: zero})
	wantServed(t, z, impl.Quest{Name: "a.com", Type: impl.TyAddr}, served{kind: impl.SvNoData, au: zero})
	wantServed(t, z, impl.Quest{Name: "b.com", Type: impl.TyAddr}, served{kind: impl.SvNoName, au: zero})
	wantOk(t, impl.Serve(z, impl.AskMsg(1, impl.Quest{Name: "b.com", Type: impl.TyAddr})), false)
}

// The first start of authority is in the reply, whatever its name.
func TestServeWithSeveralStarts(t *testing.T) {
	for _, first := range []impl.Record{start("org", 60, 1), start("com", 60, 2), start("x.com", 0, 0), {Name: "A", Type: impl.TyStart, Ttl: -1, N: -1, Host: "..", Text: "x"}} {
		z := impl.Zone{Apex: "com", L: []impl.Record{addr("a.com", 60, 1), first, start("com", 60, 3)}}
		wantServed(t, z, impl.Quest{Name: "a.com", Type: impl.TyText}, served{kind: impl.SvNoData, au: []impl.Record{first}})
		wantServed(t, z, impl.Quest{Name: "b.com", Type: impl.TyText}, served{kind: impl.SvNoName, au: []impl.Record{first}})
	}
}

func TestServeWithoutRecords(t *testing.T) {
	for _, l := range [][]impl.Record{nil, {}, cutZone().L[:0], cutZone().L[3:3]} {
		pairs(append(someNames(), someBadNames()...), func(apex string, name string) {
			want := served{kind: impl.SvNot}
			if modelUnder(name, apex) {
				want = served{kind: impl.SvNoName, au: []impl.Record{{}}}
			}
			wantServed(t, impl.Zone{Apex: apex, L: l}, impl.Quest{Name: name, Type: impl.TyAddr}, want)
		})
	}
}

// manyInAll is a zone of which every kind of reply has several records.
func manyInAll() (impl.Zone, []impl.Quest) {
	z := impl.Zone{Apex: "com", L: slices.Concat(smallest("com").L, records(3))}
	for i := range 10 {
		z.L = append(z.L, addr("a.com", 60, i), alias("al.com", 60, "a"), server("b.com", 60, "a.com"), server("b.com", 60, "h"+impl.NumText(i)))
	}
	return z, []impl.Quest{{Name: "org", Type: 1}, {Name: "b.com", Type: 1}, {Name: "al.com", Type: 1}, {Name: "a.com", Type: 1}, {Name: "a.com", Type: 3}, {Name: "x.com", Type: 1}}
}

// checkServeSharing fails if the reply shares memory with the zone or the query,
// between its sections, or with another reply.
func checkServeSharing(t *testing.T, z impl.Zone, m impl.Msg, serve func(z impl.Zone, m impl.Msg) impl.Msg) {
	t.Helper()
	before, query := slices.Clone(z.L), cloneMsg(m)
	out, other := serve(z, m), serve(z, m)
	want := cloneMsg(other)
	for section, l := range sectionsIn(&out) {
		fillRecords((*l)[:cap(*l)], "x")
		for later := section + 1; later < len(sectionNames); later++ {
			wantList(t, "a later section", *sectionsIn(&out)[later], *sectionsIn(&want)[later])
		}
	}
	wantList(t, "the zone", z.L, before)
	wantMsg(t, "the query", m, query)
	wantMsg(t, "another reply", other, want)
	fillRecords(z.L, "y")
	for _, l := range sectionsIn(&m) {
		fillRecords(*l, "y")
	}
	wantMsg(t, "another reply", other, want)
}

func TestServeSharesNoMemory(t *testing.T) {
	mark := impl.Record{Name: "x", Type: impl.TyText, Ttl: 3, N: 4, Host: "x", Text: "x"}
	for kind := range servedKinds {
		z, l := manyInAll()
		m := full()
		m.Q = l[kind]
		wantKind(t, z, m.Q.Name, m.Q.Type, kind)
		checkServeSharing(t, z, m, impl.Serve)
	}
	for _, apex := range []string{"", "com", "org"} {
		for _, q := range append(modelKeys(mixture()), impl.Quest{Name: "none", Type: impl.TyAddr}, impl.Quest{Name: "none.org"}) {
			for _, get := range []func(z impl.Zone, q impl.Quest) []impl.Record{impl.AnswerIn, impl.MoreIn, impl.HelpIn} {
				checkFreshList(t, "a list of the reply", func(l []impl.Record) []impl.Record { return get(impl.Zone{Apex: apex, L: l}, q) }, mark)
			}
		}
	}
}

// The lists of one question share no memory with each other.
func TestListsOfOneQuestionAreSeparate(t *testing.T) {
	z, l := manyInAll()
	for _, q := range l {
		want := modelServed(z, q)
		for _, get := range []func(z impl.Zone, q impl.Quest) []impl.Record{impl.AnswerIn, impl.MoreIn, impl.HelpIn} {
			out := get(z, q)
			fillRecords(out[:cap(out)], "x")
			wantServed(t, z, q, want)
		}
	}
}

// Only the records within the length count, and nothing beyond it is written.
func TestServeChangesNothing(t *testing.T) {
	for _, z := range append(servedZones(), nestedZones()[:6]...) {
		whole, names := slices.Clone(z.L), zoneNames(z)
		for length := range len(whole) + 1 {
			wantServedAsModel(t, impl.Zone{Apex: z.Apex, L: whole[:length]}, names, []int{impl.TyAddr})
			wantList(t, "the records", whole, z.L)
		}
	}
	for length := range 12 {
		m, wholes := spare(length)
		impl.Serve(cutZone(), m)
		if !allEqual(wholes, records(12)) {
			t.Errorf("a query with sections of %d records was changed", length)
		}
	}
}

// The same question gets the same reply after whatever other questions.
func TestServeAfterManyCalls(t *testing.T) {
	z, others := rootZone(), append(badZones()[:100], goodZones()...)
	names := zoneNames(z)
	for i := range 300 {
		other := others[i*7%len(others)]
		q := impl.Quest{Name: names[i%len(names)], Type: askedTypes()[i%6]}
		impl.Serve(other, impl.AskMsg(i, q))
		impl.KindText(i % 7)
		wantServed(t, z, q, modelServed(z, q))
	}
}
