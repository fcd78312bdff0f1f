package tests

import (
	"math"
	"slices"
	"strings"
	"testing"

	"loop.example/g00497/impl"
)

// linked is treeForest with these records, each in the zone of its name.
func linked(l ...impl.Record) impl.Forest {
	f := treeForest()
	for _, r := range l {
		f = addRecords(f, modelZoneOf(f, r.Name), r)
	}
	return f
}

// aliasesOver has an alias from each name to the next one, no two with the same Ttl.
func aliasesOver(names ...string) []impl.Record {
	out := []impl.Record{}
	for i := 1; i < len(names); i++ {
		out = append(out, alias(names[i-1], 60+i, names[i]))
	}
	return out
}

// factForest is valid. It has aliases to each kind of name, a chain through all of its
// zones, and cycles: of one name, of two in one zone and of two in two zones.
func factForest() impl.Forest {
	return linked(
		alias("set.com", 10, "www.ex.com"), alias("none.com", 20, "none.ex.com"), alias("empty.com", 30, "a.com"), alias("top.org", 12, ""),
		alias("a.net", 1, "b.org"), alias("b.org", 2, "c.com"), alias("c.com", 3, "d.ex.com"), alias("d.ex.com", 4, "www.org"),
		alias("self.com", 5, "self.com"), alias("p.com", 6, "q.com"), alias("q.com", 7, "p.com"), alias("r.org", 8, "s.com"), alias("s.com", 9, "r.org"),
		alias("into.ex.com", 11, "p.com"),
	)
}

func factForests() []impl.Forest {
	return append(goodForests(), factForest())
}

// withoutZone is f without the zone at this index.
func withoutZone(f impl.Forest, at int) impl.Forest {
	out := cloneForest(f)
	out.Zones = slices.Delete(out.Zones, at, at+1)
	return out
}

func cloneFact(x impl.Fact) impl.Fact {
	return impl.Fact{Code: x.Code, Links: slices.Clone(x.Links), L: slices.Clone(x.L), End: x.End}
}

// equalFacts compares all fields, also every Ttl and the order of the records.
func equalFacts(a impl.Fact, b impl.Fact) bool {
	return a.Code == b.Code && slices.Equal(a.Links, b.Links) && slices.Equal(a.L, b.L) && a.End == b.End
}

func modelLink(f impl.Forest, q impl.Quest) (int, []impl.Record) {
	if at := modelZoneOf(f, q.Name); at >= 0 {
		s := modelServed(f.Zones[at], q)
		return s.kind, s.an
	}
	return impl.SvNot, nil
}

// modelFact follows the aliases in a loop, without the program.
func modelFact(f impl.Forest, q impl.Quest) impl.Fact {
	links := []impl.Record{}
	for len(links) <= 6 {
		kind, l := modelLink(f, q)
		switch kind {
		case impl.SvSet:
			return impl.Fact{Links: links, L: l, End: true}
		case impl.SvNoData:
			return impl.Fact{Links: links, End: true}
		case impl.SvNoName:
			return impl.Fact{Code: 3, Links: links, End: true}
		case impl.SvAlias:
			links = append(links, l[0])
			q.Name = l[0].Host
		default:
			return impl.Fact{}
		}
	}
	return impl.Fact{}
}

func modelSameFact(a impl.Fact, b impl.Fact) bool {
	return a.Code == b.Code && a.End == b.End && slices.Equal(modelWith(a.Links, 0), modelWith(b.Links, 0)) && modelSameData(a.L, b.L)
}

func modelNoLater(a []impl.Record, b []impl.Record) bool {
	for _, r := range a {
		times := []int{}
		for _, other := range b {
			if modelSameData([]impl.Record{r}, []impl.Record{other}) {
				times = append(times, other.Ttl)
			}
		}
		if len(times) == 0 || slices.Max(times) < r.Ttl {
			return false
		}
	}
	return true
}

// modelFactText is for facts of valid records.
func modelFactText(x impl.Fact) string {
	if !x.End {
		return "round"
	}
	parts := []string{"set"}
	if len(x.L) == 0 {
		parts[0] = "nodata"
	}
	if x.Code == 3 {
		parts[0] = "noname"
	}
	for _, r := range slices.Concat(x.Links, x.L) {
		parts = append(parts, modelText(r))
	}
	return strings.Join(parts, "; ")
}

func wantLink(t *testing.T, f impl.Forest, q impl.Quest, kind int, l []impl.Record) {
	t.Helper()
	gotKind, got := impl.LinkAt(f, q)
	if gotKind != kind || !slices.Equal(got, l) {
		t.Errorf("LinkAt %s = %d, %s, want %d, %s", brief(q), gotKind, brief(got), kind, brief(l))
	}
}

// wantChain fails if promise 13 does not hold for x, the fact of q: the links must
// lead from the name of q to the name that EndOf returns, and all records must be
// records of this name.
func wantChain(t *testing.T, f impl.Forest, q impl.Quest, x impl.Fact) {
	t.Helper()
	name := q.Name
	for i, r := range x.Links {
		kind, l := impl.LinkAt(f, impl.Quest{Name: name, Type: q.Type})
		if kind != impl.SvAlias || len(l) == 0 || l[0] != r || r.Type != impl.TyAlias || r.Name != name {
			t.Errorf("link %d from %s is %s", i, brief(q), brief(r))
		}
		name = r.Host
	}
	if got := impl.EndOf(f, q); got != name {
		t.Errorf("EndOf %s = %s, want %s", brief(q), brief(got), brief(name))
	}
	if !x.End {
		if !equalFacts(x, impl.Fact{}) {
			t.Errorf("the fact of %s does not end and is %s", brief(q), brief(x))
		}
		return
	}
	for _, r := range x.L {
		if r.Name != name || r.Type != q.Type {
			t.Errorf("the fact of %s at %s has %s", brief(q), brief(name), brief(r))
		}
	}
	kind, l := impl.LinkAt(f, impl.Quest{Name: name, Type: q.Type})
	wantKind := map[bool]int{true: impl.SvSet, false: impl.SvNoData}[len(x.L) > 0]
	if x.Code == impl.RcNoName {
		wantKind = impl.SvNoName
	}
	if kind != wantKind || !slices.Equal(l, x.L) || x.Code != impl.RcGood && x.Code != impl.RcNoName {
		t.Errorf("the fact of %s is %s, but %s is %d, %s", brief(q), brief(x), brief(name), kind, brief(l))
	}
}

// wantFact fails if the fact of the question is not want, or if promise 13 does not
// hold for it.
func wantFact(t *testing.T, f impl.Forest, q impl.Quest, want impl.Fact) {
	t.Helper()
	got := impl.FactOf(f, q)
	if !equalFacts(got, want) {
		t.Errorf("FactOf %s = %s, want %s", brief(q), brief(got), brief(want))
	}
	if !impl.SameFact(got, want) || !impl.NoLater(got.Links, want.Links) || !impl.NoLater(got.L, want.L) {
		t.Errorf("the fact of %s is not the same as %s", brief(q), brief(want))
	}
	wantChain(t, f, q, got)
}

// wantFactText is wantFact for the fact with this text, and for the name at its end.
func wantFactText(t *testing.T, f impl.Forest, q impl.Quest, text string, end string) {
	t.Helper()
	wantFact(t, f, q, modelFact(f, q))
	if got := impl.FactText(impl.FactOf(f, q)); got != text {
		t.Errorf("the fact of %s\n%s, want\n%s", brief(q), got, text)
	}
	if got := impl.EndOf(f, q); got != end {
		t.Errorf("EndOf %s = %s, want %s", brief(q), brief(got), brief(end))
	}
}

// wantRound fails if the fact is not the zero Fact, or if EndOf is another name.
func wantRound(t *testing.T, f impl.Forest, q impl.Quest) {
	t.Helper()
	wantFact(t, f, q, impl.Fact{})
	wantFactText(t, f, q, "round", q.Name)
}

func wantFactsAsModel(t *testing.T, f impl.Forest, names []string, types []int) {
	t.Helper()
	for _, name := range names {
		for _, ty := range types {
			q := impl.Quest{Name: name, Type: ty}
			kind, l := modelLink(f, q)
			wantLink(t, f, q, kind, l)
			wantFact(t, f, q, modelFact(f, q))
		}
	}
}

func TestLimitOfLinks(t *testing.T) {
	if impl.MaxLinks != 6 {
		t.Error(impl.MaxLinks)
	}
	wantForest(t, "the name space of the facts", factForest(), true)
}

func TestLinkOfEachKind(t *testing.T) {
	f := factForest()
	for _, c := range []struct {
		name string
		ty   int
		kind int
		l    []impl.Record
	}{
		{"set.com", impl.TyAddr, impl.SvAlias, []impl.Record{alias("set.com", 10, "www.ex.com")}},
		{"self.com", impl.TyText, impl.SvAlias, []impl.Record{alias("self.com", 5, "self.com")}},
		{"set.com", impl.TyAlias, impl.SvSet, []impl.Record{alias("set.com", 10, "www.ex.com")}},
		{"www.ex.com", impl.TyAddr, impl.SvSet, []impl.Record{addr("www.ex.com", 60, 7), addr("www.ex.com", 60, 8)}},
		{"", impl.TyServer, impl.SvSet, []impl.Record{server("", 60, "a.root")}},
		{"org", impl.TyStart, impl.SvSet, []impl.Record{start("org", 60, 30)}},
		{"www.ex.com", impl.TyText, impl.SvNoData, nil},
		{"a.com", impl.TyAddr, impl.SvNoData, nil},
		{"x.ex.com", impl.TyAddr, impl.SvNoName, nil},
		{"net", impl.TyAddr, impl.SvNoData, nil},
		{"x.net", impl.TyAddr, impl.SvNoName, nil},
	} {
		wantLink(t, f, impl.Quest{Name: c.name, Type: c.ty}, c.kind, c.l)
	}
	for _, ty := range askedTypes() {
		for _, name := range []string{"ex.com", "www.ex.com", "x.ex.com"} {
			wantLink(t, withoutZone(f, 3), impl.Quest{Name: name, Type: ty}, impl.SvDown, nil)
		}
		for _, name := range []string{"", "net", "a.net", "xcom"} {
			wantLink(t, withoutZone(f, 0), impl.Quest{Name: name, Type: ty}, impl.SvNot, nil)
		}
	}
}

func TestTextsOfFacts(t *testing.T) {
	chain := "; b.org 2 alias c.com; c.com 3 alias d.ex.com; d.ex.com 4 alias www.org"
	for _, c := range []struct {
		name string
		ty   int
		text string
		end  string
	}{
		{"www.ex.com", impl.TyAddr, "set; www.ex.com 60 addr 7; www.ex.com 60 addr 8", "www.ex.com"},
		{"www.ex.com", impl.TyText, "nodata", "www.ex.com"},
		{"a.com", impl.TyAddr, "nodata", "a.com"},
		{"b.a.com", impl.TyText, "set; b.a.com 60 text 'hi", "b.a.com"},
		{"x.a.com", impl.TyText, "noname", "x.a.com"},
		{"ex.com", impl.TyStart, "set; ex.com 60 start ns.com 30", "ex.com"},
		{"", impl.TyServer, "set; . 60 server a.root", ""},
		{"", impl.TyAddr, "nodata", ""},
		{"none", impl.TyAddr, "noname", "none"},
		{"set.com", impl.TyAddr, "set; set.com 10 alias www.ex.com; www.ex.com 60 addr 7; www.ex.com 60 addr 8", "www.ex.com"},
		{"set.com", impl.TyText, "nodata; set.com 10 alias www.ex.com", "www.ex.com"},
		{"set.com", impl.TyAlias, "set; set.com 10 alias www.ex.com", "set.com"},
		{"none.com", impl.TyAddr, "noname; none.com 20 alias none.ex.com", "none.ex.com"},
		{"empty.com", impl.TyAddr, "nodata; empty.com 30 alias a.com", "a.com"},
		{"empty.com", impl.TyText, "nodata; empty.com 30 alias a.com", "a.com"},
		{"top.org", impl.TyServer, "set; top.org 12 alias .; . 60 server a.root", ""},
		{"top.org", impl.TyAddr, "nodata; top.org 12 alias .", ""},
		{"a.net", impl.TyAddr, "set; a.net 1 alias b.org" + chain + "; www.org 60 addr 9", "www.org"},
		{"a.net", impl.TyText, "nodata; a.net 1 alias b.org" + chain, "www.org"},
		{"b.org", impl.TyAddr, "set" + chain + "; www.org 60 addr 9", "www.org"},
		{"d.ex.com", impl.TyAddr, "set; d.ex.com 4 alias www.org; www.org 60 addr 9", "www.org"},
		{"al.com", impl.TyAddr, "set; al.com 60 alias www.ex.com; www.ex.com 60 addr 7; www.ex.com 60 addr 8", "www.ex.com"},
		{"self.com", impl.TyAddr, "round", "self.com"},
		{"into.ex.com", impl.TyText, "round", "into.ex.com"},
	} {
		wantFactText(t, factForest(), impl.Quest{Name: c.name, Type: c.ty}, c.text, c.end)
	}
}

// In a valid name space a fact does not end only because of a cycle or a long chain.
func TestFactsOfAllNames(t *testing.T) {
	for i, f := range factForests() {
		names := append(forestNames(f), someNames()...)
		wantFactsAsModel(t, f, names, askedTypes())
		rounds := 0
		for _, name := range names {
			x := impl.FactOf(f, impl.Quest{Name: name, Type: impl.TyAddr})
			if got := impl.FactText(x); got != modelFactText(x) {
				t.Errorf("FactText = %s, want %s", got, modelFactText(x))
			}
			if !x.End {
				rounds++
			}
		}
		if last := i == len(factForests())-1; last != (rounds > 0) {
			t.Errorf("%d facts do not end", rounds)
		}
	}
}

// No link of a cycle is in the fact, from wherever the cycle is entered.
func TestCyclesOfAliases(t *testing.T) {
	f := factForest()
	for _, ty := range askedTypes() {
		for _, name := range []string{"self.com", "p.com", "q.com", "r.org", "s.com", "into.ex.com"} {
			if ty != impl.TyAlias {
				wantRound(t, f, impl.Quest{Name: name, Type: ty})
			}
		}
	}
	zones := []string{".com", ".org", ".net", ".ex.com", ".com", ".org", ".net", ".ex.com", ".com"}
	for size := 1; size < len(zones); size++ {
		for before := range 4 {
			names := []string{}
			for i := range size + before {
				names = append(names, "n"+impl.NumText(i)+zones[i%len(zones)])
			}
			g := linked(aliasesOver(append(names, names[before])...)...)
			wantForest(t, "a cycle", g, true)
			for _, name := range names {
				wantRound(t, g, impl.Quest{Name: name, Type: impl.TyAddr})
			}
			wantFactsAsModel(t, g, names, askedTypes())
		}
	}
}

// An alias to its own subdomain, and one from a subdomain to the name above it, are
// no cycles by themselves.
func TestAliasesToSubdomains(t *testing.T) {
	f := linked(alias("a.org", 60, "x.a.org"), addr("x.a.org", 60, 1), alias("x.b.org", 60, "b.org"), addr("b.org", 60, 2), alias("c.org", 60, "x.c.org"), alias("x.c.org", 60, "c.org"), alias("d.org", 60, "x.d.org"))
	wantForest(t, "subdomains", f, true)
	for name, text := range map[string]string{
		"a.org": "set; a.org 60 alias x.a.org; x.a.org 60 addr 1", "x.b.org": "set; x.b.org 60 alias b.org; b.org 60 addr 2", "d.org": "noname; d.org 60 alias x.d.org",
	} {
		q := impl.Quest{Name: name, Type: impl.TyAddr}
		wantFactText(t, f, q, text, impl.FactOf(f, q).Links[0].Host)
	}
	wantRound(t, f, impl.Quest{Name: "c.org", Type: impl.TyAddr})
	wantRound(t, f, impl.Quest{Name: "x.c.org", Type: impl.TyAddr})
}

// Chains of up to MaxLinks links end, whatever is at their end and wherever they
// begin; one link more is too much.
func TestLengthOfChains(t *testing.T) {
	zones := []string{".com", ".org", ".com", ".ex.com", ".org", ".net"}
	for last, want := range map[string]impl.Fact{
		"www.ex.com":  {L: []impl.Record{addr("www.ex.com", 60, 7), addr("www.ex.com", 60, 8)}, End: true},
		"a.com":       {End: true},
		"none.ex.com": {Code: impl.RcNoName, End: true},
		"":            {End: true},
	} {
		for n := range 12 {
			names := []string{}
			for i := range n {
				names = append(names, "n"+impl.NumText(i)+zones[i%len(zones)])
			}
			l := aliasesOver(append(names, last)...)
			f := linked(l...)
			wantForest(t, "a chain", f, true)
			for from, name := range append(names, last) {
				q := impl.Quest{Name: name, Type: impl.TyAddr}
				if len(l[from:]) > impl.MaxLinks {
					wantRound(t, f, q)
					continue
				}
				want.Links = l[from:]
				wantFact(t, f, q, want)
				if got := impl.EndOf(f, q); got != last {
					t.Errorf("EndOf %s = %s, want %s", brief(q), brief(got), brief(last))
				}
			}
		}
	}
}

// Who asks for an alias gets it and not what it leads to, also in a cycle.
func TestAliasAskedByItsType(t *testing.T) {
	f := factForest()
	count := 0
	for _, z := range f.Zones {
		for _, r := range z.L {
			if r.Type != impl.TyAlias {
				continue
			}
			count++
			q := impl.Quest{Name: r.Name, Type: impl.TyAlias}
			wantLink(t, f, q, impl.SvSet, []impl.Record{r})
			wantFact(t, f, q, impl.Fact{L: []impl.Record{r}, End: true})
			wantFactText(t, f, q, "set; "+modelText(r), r.Name)
		}
	}
	if count != 15 {
		t.Errorf("%d aliases", count)
	}
	wantFactText(t, f, impl.Quest{Name: "www.org", Type: impl.TyAlias}, "nodata", "www.org")
	wantFactText(t, f, impl.Quest{Name: "x.org", Type: impl.TyAlias}, "noname", "x.org")
}

// The links that lead to a name about which nothing is known are not in the fact.
func TestAliasToNameWithoutZone(t *testing.T) {
	f := withoutZone(linked(alias("a.com", 60, "net"), alias("b.com", 60, ""), alias("c.org", 60, "a.com"), alias("d.ex.com", 60, "c.org"), alias("e.org", 60, "ns.org")), 0)
	wantForest(t, "no root", f, false)
	for _, name := range []string{"a.com", "b.com", "c.org", "d.ex.com", "net", "", "none", "x.y.net"} {
		wantRound(t, f, impl.Quest{Name: name, Type: impl.TyAddr})
	}
	wantFactText(t, f, impl.Quest{Name: "e.org", Type: impl.TyAddr}, "set; e.org 60 alias ns.org; ns.org 60 addr 4", "ns.org")
	wantFactText(t, f, impl.Quest{Name: "a.com", Type: impl.TyAlias}, "set; a.com 60 alias net", "a.com")
}

// Below a cut for which there is no zone nothing is known, although the zone above
// has an address there.
func TestAliasBelowCutWithoutZone(t *testing.T) {
	f := withoutZone(linked(alias("b.com", 60, "ns.ex.com"), alias("c.org", 60, "al.com"), alias("d.org", 60, "ex.com"), alias("e.org", 60, "xex.com")), 3)
	wantForest(t, "no zone for ex.com", f, false)
	for _, name := range []string{"al.com", "b.com", "c.org", "d.org", "ns.ex.com", "ex.com", "www.ex.com", "x.ns.ex.com"} {
		wantRound(t, f, impl.Quest{Name: name, Type: impl.TyAddr})
		wantRound(t, f, impl.Quest{Name: name, Type: 3})
	}
	wantRound(t, f, impl.Quest{Name: "ex.com", Type: impl.TyServer})
	wantFactText(t, f, impl.Quest{Name: "e.org", Type: impl.TyAddr}, "noname; e.org 60 alias xex.com", "xex.com")
}

// Below a cut the records of its zone count, and not those of the zone above it.
func TestNameBelowCut(t *testing.T) {
	f := addRecords(linked(alias("b.com", 60, "www.ex.com"), alias("c.com", 60, "low.ex.com")), 1, addr("www.ex.com", 9, 20), addr("low.ex.com", 9, 21))
	wantForest(t, "addresses below a cut", f, true)
	wantFactText(t, f, impl.Quest{Name: "www.ex.com", Type: impl.TyAddr}, "set; www.ex.com 60 addr 7; www.ex.com 60 addr 8", "www.ex.com")
	wantFactText(t, f, impl.Quest{Name: "b.com", Type: impl.TyAddr}, "set; b.com 60 alias www.ex.com; www.ex.com 60 addr 7; www.ex.com 60 addr 8", "www.ex.com")
	wantFactText(t, f, impl.Quest{Name: "low.ex.com", Type: impl.TyAddr}, "noname", "low.ex.com")
	wantFactText(t, f, impl.Quest{Name: "c.com", Type: impl.TyAddr}, "noname; c.com 60 alias low.ex.com", "low.ex.com")
	wantFactText(t, f, impl.Quest{Name: "ex.com", Type: impl.TyServer}, "set; ex.com 60 server ns.ex.com; ex.com 60 server ns.org", "ex.com")
}

// Where a name has several aliases, as in no valid zone, the first one is followed.
func TestFirstOfSeveralAliases(t *testing.T) {
	several := []impl.Record{alias("al.com", 9, "a.com"), alias("al.com", 8, "b.com"), alias("al.com", 7, "al.com"), addr("al.com", 6, 5), addr("a.com", 5, 1), addr("b.com", 4, 2)}
	permutations(several, func(l []impl.Record) {
		f := impl.Forest{Zones: []impl.Zone{{Apex: "com", L: l}}}
		aliases := modelSet(l, "al.com", impl.TyAlias)
		wantLink(t, f, impl.Quest{Name: "al.com", Type: impl.TyAddr}, impl.SvAlias, aliases)
		wantFact(t, f, impl.Quest{Name: "al.com", Type: impl.TyAlias}, impl.Fact{L: aliases, End: true})
		want := impl.Fact{}
		if host := aliases[0].Host; host != "al.com" {
			want = impl.Fact{Links: aliases[:1], L: modelSet(l, host, impl.TyAddr), End: true}
		}
		wantFact(t, f, impl.Quest{Name: "al.com", Type: impl.TyAddr}, want)
	})
}

// Aliases with fields that no valid record has, and to names that are not valid.
func TestInvalidAliases(t *testing.T) {
	odd := impl.Record{Name: "a", Type: impl.TyAlias, Ttl: -5, N: -7, Host: "B..", Text: " "}
	f := impl.Forest{Zones: []impl.Zone{{Apex: "", L: []impl.Record{odd, addr("B..", impl.MaxTtl+1, -1), alias("A", math.MinInt, "."), alias(".", math.MaxInt, "\xff")}}}}
	wantFact(t, f, impl.Quest{Name: "a", Type: impl.TyAddr}, impl.Fact{Links: []impl.Record{odd}, L: f.Zones[0].L[1:2], End: true})
	wantFact(t, f, impl.Quest{Name: "a", Type: 3}, impl.Fact{Links: []impl.Record{odd}, End: true})
	wantFact(t, f, impl.Quest{Name: "A", Type: -1}, impl.Fact{Code: impl.RcNoName, Links: f.Zones[0].L[2:4], End: true})
	for _, name := range badNames() {
		f := impl.Forest{Zones: []impl.Zone{{Apex: "", L: []impl.Record{alias("a", 1, name), addr(name, 2, 3)}}}}
		wantFact(t, f, impl.Quest{Name: "a", Type: impl.TyAddr}, impl.Fact{Links: f.Zones[0].L[:1], L: f.Zones[0].L[1:], End: true})
		if got := impl.EndOf(f, impl.Quest{Name: "a", Type: impl.TyAddr}); got != name {
			t.Errorf("EndOf = %s, want %s", brief(got), brief(name))
		}
	}
}

func TestInvalidQuestions(t *testing.T) {
	f := factForest()
	for _, q := range badQuests() {
		wantFact(t, f, q, modelFact(f, q))
	}
	for _, ty := range noTypes() {
		wantFact(t, f, impl.Quest{Name: "www.ex.com", Type: ty}, impl.Fact{End: true})
		wantFact(t, f, impl.Quest{Name: "al.com", Type: ty}, impl.Fact{Links: []impl.Record{alias("al.com", 60, "www.ex.com")}, End: true})
		wantRound(t, f, impl.Quest{Name: "self.com", Type: ty})
	}
}

func TestFactsWithoutZones(t *testing.T) {
	posts := treeForest().Posts
	for _, f := range []impl.Forest{{}, {Zones: []impl.Zone{}, Posts: []impl.Post{}}, {Posts: posts}, {Zones: treeForest().Zones[:0], Posts: posts[:0]}} {
		for _, q := range append(goodQuests()[:40], badQuests()[:40]...) {
			wantLink(t, f, q, impl.SvNot, nil)
			wantRound(t, f, q)
		}
	}
	for _, l := range [][]impl.Record{nil, {}} {
		f := impl.Forest{Zones: []impl.Zone{{Apex: "com", L: l}}}
		wantFact(t, f, impl.Quest{Name: "a.com", Type: impl.TyAddr}, impl.Fact{Code: impl.RcNoName, End: true})
		wantRound(t, f, impl.Quest{Name: "org", Type: impl.TyAddr})
	}
}

// The posts are of no importance for what the zones contain.
func TestFactsWithoutPosts(t *testing.T) {
	for _, posts := range [][]impl.Post{nil, {}, {post(1, "net")}, slices.Repeat(treeForest().Posts, 9)} {
		f := factForest()
		f.Posts = posts
		for _, name := range forestNames(factForest()) {
			q := impl.Quest{Name: name, Type: impl.TyAddr}
			wantFact(t, f, q, impl.FactOf(factForest(), q))
		}
	}
}

// Cycles and chains through very many zones and records.
func TestFactsOfLargeForests(t *testing.T) {
	names := []string{}
	for i := range 400 {
		names = append(names, "a.x"+impl.NumText(i))
	}
	f := impl.Forest{}
	for i, r := range aliasesOver(append(names, names[0])...) {
		f.Zones = append(f.Zones, impl.Zone{Apex: names[i][2:], L: slices.Repeat([]impl.Record{r}, 20)})
	}
	wantRound(t, f, impl.Quest{Name: names[7], Type: impl.TyAddr})
	f.Zones[399].L = []impl.Record{addr(names[399], 60, 1)}
	wantRound(t, f, impl.Quest{Name: names[392], Type: impl.TyAddr})
	q := impl.Quest{Name: names[393], Type: impl.TyAddr}
	wantFact(t, f, q, modelFact(f, q))
	if x := impl.FactOf(f, q); len(x.Links) != impl.MaxLinks || !slices.Equal(x.L, f.Zones[399].L) {
		t.Errorf("FactOf = %s", brief(x))
	}
	one := impl.Forest{Zones: []impl.Zone{{Apex: "", L: slices.Concat(manyNames(2000), aliasesOver("a", "b", "c", "a"))}}}
	wantRound(t, one, impl.Quest{Name: "a", Type: impl.TyAddr})
}

func TestFactsOfChangedForests(t *testing.T) {
	names := forestNames(treeForest())
	for i, f := range oneChange() {
		wantFactsAsModel(t, f, names[i%7:i%7+12], []int{impl.TyAddr, recordTypes()[i%5]})
	}
}

// Name spaces with drawn aliases, with all kinds of ends and all lengths of chains.
func TestDrawnAliases(t *testing.T) {
	next := draws(13)
	names := []string{"net", "a.net", "www.com", "al.com", "a.com", "www.org", "a.org", "www.ex.com", "a.ex.com", "none.ex.com"}
	lengths, ends := [7]int{}, map[string]int{}
	for range 400 {
		f := treeForest()
		for range next(3) {
			f = changedBy(next, f)
		}
		for range next(12) {
			name := names[next(len(names))]
			if at := modelZoneOf(f, name); at >= 0 {
				f = addRecords(f, at, alias(name, next(9), names[next(len(names))]))
			}
		}
		if next(4) == 0 && len(f.Zones) > 1 {
			f = withoutZone(f, next(len(f.Zones)))
		}
		wantFactsAsModel(t, f, names, []int{impl.TyAddr})
		for _, name := range names {
			x := impl.FactOf(f, impl.Quest{Name: name, Type: impl.TyAddr})
			lengths[len(x.Links)]++
			ends[strings.Split(impl.FactText(x), ";")[0]]++
		}
	}
	if slices.Min(lengths[:5]) < 20 || ends["round"] < 100 || ends["set"] < 100 || ends["nodata"] < 100 || ends["noname"] < 100 {
		t.Errorf("the lengths are %v, the ends %v", lengths, ends)
	}
}

// Any zones of few names, most of them invalid.
func TestFactsOfDrawnZones(t *testing.T) {
	next := draws(1313)
	names := []string{"", "com", "ex.com", "www.ex.com", "ns.com", "org", "a.org", "A", "com.", "."}
	for range 300 {
		f := impl.Forest{}
		for range next(7) {
			l := manyRecords(uint32(next(500)), next(12))
			for range next(6) {
				l = slices.Insert(l, next(len(l)+1), alias(names[next(len(names))], next(9)-2, names[next(len(names))]))
			}
			f.Zones = append(f.Zones, impl.Zone{Apex: names[next(1+next(len(names)))], L: l})
		}
		wantFactsAsModel(t, f, names, []int{impl.TyAddr, impl.TyAlias, -1})
	}
	bad := badZones()
	for i, z := range bad[:150] {
		f := impl.Forest{Zones: []impl.Zone{z, bad[i+7], {Apex: "org", L: aliasesOver("a.org", "com", "org", "a.org")}}}
		wantFactsAsModel(t, f, []string{"", "com", "a.com", "www.ex.com", "ns.com", "a.org", z.Apex}, []int{impl.TyAddr, impl.TyAlias})
	}
}

// wantSameFact fails if SameFact, in one of the two orders, is not want.
func wantSameFact(t *testing.T, a impl.Fact, b impl.Fact, want bool) {
	t.Helper()
	if impl.SameFact(a, b) != want || impl.SameFact(b, a) != want {
		t.Errorf("SameFact(%s, %s) = %v, and %v the other way", brief(a), brief(b), impl.SameFact(a, b), impl.SameFact(b, a))
	}
}

// baseFact has three links and three records.
func baseFact() impl.Fact {
	return impl.Fact{Links: aliasesOver("a.com", "b.org", "c.net", "d.com"), L: []impl.Record{addr("d.com", 60, 1), addr("d.com", 50, 2), text("d.com", 40, "hi")}, End: true}
}

// dataChanges change what a record says, and not its Ttl.
func dataChanges() []func(r *impl.Record) {
	return []func(r *impl.Record){
		func(r *impl.Record) { r.Name += "x" },
		func(r *impl.Record) { r.Name = "" },
		func(r *impl.Record) { r.Type = impl.TyServer },
		func(r *impl.Record) { r.Type = -1 },
		func(r *impl.Record) { r.N += 100 },
		func(r *impl.Record) { r.N -= 100 },
		func(r *impl.Record) { r.Host += "x" },
		func(r *impl.Record) { r.Text += "x" },
	}
}

// sameFacts are all the same as baseFact, otherFacts are not.
func sameFacts() []impl.Fact {
	out := []impl.Fact{baseFact()}
	add := func(change func(x *impl.Fact)) {
		x := baseFact()
		change(&x)
		out = append(out, x)
	}
	for i := range 3 {
		for _, ttl := range []int{0, 1, impl.MaxTtl, impl.MaxTtl + 1, -1, math.MinInt, math.MaxInt} {
			add(func(x *impl.Fact) { x.Links[i].Ttl = ttl })
			add(func(x *impl.Fact) { x.L[i].Ttl = ttl })
		}
		add(func(x *impl.Fact) { x.L = append(x.L, x.L[i]) })
		add(func(x *impl.Fact) { x.L = append(x.L[i:], x.L[:i]...) })
	}
	add(func(x *impl.Fact) { slices.Reverse(x.L) })
	add(func(x *impl.Fact) { x.Links, x.L = impl.WithTtl(x.Links, 9), impl.WithTtl(x.L, 9) })
	return out
}

func otherFacts() []impl.Fact {
	out := []impl.Fact{{}, {End: true}, {Code: impl.RcNoName, End: true}}
	add := func(change func(x *impl.Fact)) {
		x := baseFact()
		change(&x)
		out = append(out, x)
	}
	for _, code := range []int{1, 2, impl.RcNoName, 4, impl.RcRefused, -1, math.MinInt, math.MaxInt} {
		add(func(x *impl.Fact) { x.Code = code })
	}
	add(func(x *impl.Fact) { x.End = false })
	add(func(x *impl.Fact) { x.Links = nil })
	add(func(x *impl.Fact) { x.L = nil })
	add(func(x *impl.Fact) { x.Links, x.L = x.L, x.Links })
	add(func(x *impl.Fact) { slices.Reverse(x.Links) })
	for i := range 3 {
		for _, change := range dataChanges() {
			add(func(x *impl.Fact) { change(&x.Links[i]) })
			add(func(x *impl.Fact) { change(&x.L[i]) })
		}
		add(func(x *impl.Fact) { x.Links = slices.Delete(x.Links, i, i+1) })
		add(func(x *impl.Fact) { x.Links = append(x.Links, x.Links[i]) })
		add(func(x *impl.Fact) { x.Links[i], x.Links[(i+1)%3] = x.Links[(i+1)%3], x.Links[i] })
		add(func(x *impl.Fact) { x.L = slices.Delete(x.L, i, i+1) })
		add(func(x *impl.Fact) { x.L = append(x.L, x.Links[i]) })
	}
	return out
}

func TestSameFact(t *testing.T) {
	for _, a := range sameFacts() {
		for _, b := range sameFacts() {
			wantSameFact(t, a, b, true)
		}
		for _, b := range otherFacts() {
			wantSameFact(t, a, b, false)
		}
	}
	for _, a := range otherFacts() {
		for _, b := range otherFacts() {
			wantSameFact(t, a, b, modelSameFact(a, b))
		}
	}
}

func TestSameFactOfShortLists(t *testing.T) {
	wantSameFact(t, impl.Fact{}, impl.Fact{Links: []impl.Record{}, L: []impl.Record{}}, true)
	for _, end := range []bool{false, true} {
		for _, code := range []int{impl.RcGood, impl.RcNoName, 2, -1} {
			x := impl.Fact{Code: code, End: end}
			wantSameFact(t, x, impl.Fact{Code: code, Links: []impl.Record{}, L: []impl.Record{}, End: end}, true)
			wantSameFact(t, x, impl.Fact{Code: code, End: !end}, false)
			wantSameFact(t, x, impl.Fact{Code: code + 1, End: end}, false)
			wantSameFact(t, x, impl.Fact{Code: code, Links: []impl.Record{{}}, End: end}, false)
			wantSameFact(t, x, impl.Fact{Code: code, L: []impl.Record{{}}, End: end}, false)
		}
	}
}

// Any lists: equal, nearly equal, and different ones.
func TestSameFactOfDrawnLists(t *testing.T) {
	next := draws(14)
	counts := map[bool]int{}
	for range 3000 {
		a := impl.Fact{Code: next(2) * 3, Links: manyRecords(uint32(next(50)), next(5)), L: manyRecords(uint32(next(50)), next(5)), End: next(3) > 0}
		b := cloneFact(a)
		for _, l := range [][]impl.Record{b.Links, b.L} {
			if len(l) == 0 {
				continue
			}
			i, j := next(len(l)), next(len(l))
			switch next(6) {
			case 0:
				l[i].Ttl = next(9) - 3
			case 1:
				l[i], l[j] = l[j], l[i]
			case 2:
				l[i] = l[j]
			case 3:
				l[i].N++
			}
		}
		want := modelSameFact(a, b)
		counts[want]++
		wantSameFact(t, a, b, want)
	}
	if counts[true] < 300 || counts[false] < 300 {
		t.Errorf("%v", counts)
	}
}

func wantNoLater(t *testing.T, a []impl.Record, b []impl.Record, want bool) {
	t.Helper()
	if impl.NoLater(a, b) != want {
		t.Errorf("NoLater(%s, %s) = %v", brief(a), brief(b), !want)
	}
}

func TestNoLater(t *testing.T) {
	times := []int{0, 1, 59, 60, 61, impl.MaxTtl, impl.MaxTtl + 1, -1, -60, math.MinInt, math.MaxInt}
	for _, r := range slices.Concat(oneOfEach(""), oneOfEach("ex.com"), invalidMixture()) {
		for _, first := range times {
			for _, second := range times {
				a, b := r, r
				a.Ttl, b.Ttl = first, second
				wantNoLater(t, []impl.Record{a}, []impl.Record{b}, first <= second)
				wantNoLater(t, []impl.Record{a, b}, []impl.Record{b}, first <= second)
				wantNoLater(t, []impl.Record{a}, []impl.Record{b, a}, true)
			}
		}
	}
}

func TestNoLaterOfEmptyLists(t *testing.T) {
	lists := append(someLists()[:60], nil, []impl.Record{}, []impl.Record{addr("a", math.MinInt, 1)})
	for _, l := range lists {
		for _, none := range [][]impl.Record{nil, {}} {
			wantNoLater(t, none, l, true)
			wantNoLater(t, l, none, len(l) == 0)
		}
	}
}

func TestNoLaterOfRecordThatIsMissing(t *testing.T) {
	l := baseFact().L
	for i := range l {
		wantNoLater(t, l[i:i+1], l, true)
		wantNoLater(t, l, l[i:i+1], false)
		wantNoLater(t, l, slices.Delete(slices.Clone(l), i, i+1), false)
		wantNoLater(t, slices.Delete(slices.Clone(l), i, i+1), l, true)
		for _, change := range dataChanges() {
			other := impl.WithTtl(l, 1000)
			change(&other[i])
			wantNoLater(t, l, other, false)
			wantNoLater(t, other, impl.WithTtl(l, 2000), false)
			wantNoLater(t, l, append(other, l...), true)
			wantNoLater(t, other, append(impl.WithTtl(l, 2000), other...), true)
		}
	}
}

// Each record alone decides, wherever the two stand; another order changes nothing.
func TestNoLaterOfOneRecord(t *testing.T) {
	l := baseFact().L
	permutations(slices.Clone(l), func(other []impl.Record) {
		wantNoLater(t, l, other, true)
		for i := range l {
			for _, more := range []int{-1, 1} {
				changed := slices.Clone(other)
				changed[i].Ttl += more
				wantNoLater(t, l, changed, more > 0)
				wantNoLater(t, changed, l, more < 0)
			}
		}
	})
}

// Of a record that occurs several times, the one with the largest Ttl counts.
func TestNoLaterOfRecordWithSeveralTimes(t *testing.T) {
	permutations([]impl.Record{addr("a", 5, 1), addr("a", 9, 1), addr("a", 7, 1), addr("a", 20, 2), addr("b", 30, 1)}, func(l []impl.Record) {
		for ttl := range 35 {
			wantNoLater(t, []impl.Record{addr("a", ttl, 1)}, l, ttl <= 9)
			wantNoLater(t, []impl.Record{addr("a", 5, 1), addr("a", ttl, 1)}, l, ttl <= 9)
			wantNoLater(t, []impl.Record{addr("a", ttl, 2)}, l, ttl <= 20)
			wantNoLater(t, []impl.Record{addr("b", ttl, 1), addr("a", 9, 1)}, l, ttl <= 30)
			wantNoLater(t, l, []impl.Record{addr("a", ttl, 1), addr("a", 0, 1), addr("b", 30, 1), addr("a", 20, 2)}, ttl >= 9)
		}
	})
	low := []impl.Record{addr("a", -9, 1), addr("a", math.MinInt, 1)}
	wantNoLater(t, []impl.Record{addr("a", -9, 1)}, low, true)
	wantNoLater(t, []impl.Record{addr("a", -8, 1)}, low, false)
}

func TestNoLaterOfDrawnLists(t *testing.T) {
	next := draws(15)
	counts := map[bool]int{}
	for range 3000 {
		b := manyRecords(uint32(next(100)), 1+next(10))
		a := []impl.Record{}
		for range next(5) {
			r := b[next(len(b))]
			if r.Ttl += next(5) - 4; next(8) == 0 {
				r.Host += "x"
			}
			a = append(a, r)
		}
		want := modelNoLater(a, b)
		counts[want]++
		wantNoLater(t, a, b, want)
		wantNoLater(t, b, a, modelNoLater(b, a))
	}
	if counts[true] < 300 || counts[false] < 300 {
		t.Errorf("%v", counts)
	}
}

func wantText(t *testing.T, x impl.Fact, want string) {
	t.Helper()
	if got := impl.FactText(x); got != want {
		t.Errorf("FactText(%s) = %q, want %q", brief(x), got, want)
	}
}

// What the links and the records are has no influence on the word in front of them.
func TestFactText(t *testing.T) {
	links, l := aliasesOver("a.com", "", "b.org"), oneOfEach("")
	first, second := "; a.com 61 alias .", "; . 62 alias b.org"
	text := "; . 60 addr 7; . 60 server ns.com; . 60 alias www.ex.com; . 60 start ns.com 30; . 60 text 'hi"
	for _, code := range []int{impl.RcGood, impl.RcNoName, impl.RcForm, impl.RcFail, impl.RcRefused, 4, 16, -1, -3, math.MinInt, math.MaxInt} {
		set, nodata := "set", "nodata"
		if code == impl.RcNoName {
			set, nodata = "noname", "noname"
		}
		wantText(t, impl.Fact{Code: code, End: true}, nodata)
		wantText(t, impl.Fact{Code: code, Links: links, End: true}, nodata+first+second)
		wantText(t, impl.Fact{Code: code, Links: links[:1], End: true}, nodata+first)
		wantText(t, impl.Fact{Code: code, L: l, End: true}, set+text)
		wantText(t, impl.Fact{Code: code, Links: links, L: l, End: true}, set+first+second+text)
		wantText(t, impl.Fact{Code: code, Links: l, L: links, End: true}, set+text+first+second)
		for _, x := range []impl.Fact{{}, {Links: links}, {L: l}, {Links: links, L: l}, {Links: []impl.Record{{}}, L: []impl.Record{{}, {}}}} {
			x.Code = code
			wantText(t, x, "round")
		}
	}
}

// Records come in the order of the fact, also those that are repeated; those that
// are invalid have no text.
func TestFactTextOfAnyRecords(t *testing.T) {
	for i, l := range [][]impl.Record{nil, records(1), records(8), records(40), slices.Repeat(records(2), 3), unsorted()} {
		l = slices.DeleteFunc(l, func(r impl.Record) bool { return !impl.RecordOk(r) })
		for _, links := range [][]impl.Record{{}, l, records(i * 3)} {
			for _, code := range []int{impl.RcGood, impl.RcNoName} {
				x := impl.Fact{Code: code, Links: links, L: l, End: true}
				wantText(t, x, modelFactText(x))
			}
		}
	}
	for _, r := range badRecords() {
		wantText(t, impl.Fact{L: []impl.Record{r}, End: true}, "set; ")
		wantText(t, impl.Fact{Links: []impl.Record{r, addr("a", 1, 2), r}, End: true}, "nodata; ; a 1 addr 2; ")
		wantText(t, impl.Fact{Code: impl.RcNoName, Links: []impl.Record{r}, L: []impl.Record{r}, End: true}, "noname; ; ")
	}
}

// manyForest has two links and a set of several records, each with spare capacity.
func manyForest() (impl.Forest, impl.Quest) {
	f := linked(alias("a.com", 60, "b.org"), alias("b.org", 60, "c.com"), alias("c.com", 60, "www.ex.com"))
	for i := range 5 {
		f = addRecords(f, 3, addr("www.ex.com", 60, 20+i))
	}
	return f, impl.Quest{Name: "a.com", Type: impl.TyAddr}
}

func TestFactSharesNoMemory(t *testing.T) {
	f, q := manyForest()
	before, want := cloneForest(f), modelFact(f, q)
	out, second, other := impl.FactOf(f, q), impl.FactOf(f, q), impl.FactOf(f, q)
	fillRecords(out.Links[:cap(out.Links)], "x")
	wantList(t, "the records beside changed links", out.L, want.L)
	fillRecords(second.L[:cap(second.L)], "y")
	wantList(t, "the links beside changed records", second.Links, want.Links)
	if !equalFacts(other, want) || !sameForest(f, before) {
		t.Errorf("the fact of %s shares memory: %s", brief(q), brief(other))
	}
	wantFact(t, f, q, want)
	for _, z := range f.Zones {
		fillRecords(z.L, "z")
	}
	if !equalFacts(other, want) {
		t.Errorf("the fact of %s shares memory with the name space: %s", brief(q), brief(other))
	}
}

func TestListsOfFactsShareNoMemory(t *testing.T) {
	mark := impl.Record{Name: "x", Type: impl.TyText, Ttl: 3, N: 4, Host: "x", Text: "x"}
	for _, apex := range []string{"", "com", "org"} {
		for _, q := range append(modelKeys(mixture()), impl.Quest{Name: "www.ex.com", Type: impl.TyAddr}, impl.Quest{Name: "ns.com", Type: 3}, impl.Quest{Name: "none"}) {
			forest := func(l []impl.Record) impl.Forest { return impl.Forest{Zones: []impl.Zone{{Apex: apex, L: l}}} }
			checkFreshList(t, "the list of LinkAt", func(l []impl.Record) []impl.Record {
				_, out := impl.LinkAt(forest(l), q)
				return out
			}, mark)
			checkFreshList(t, "Links", func(l []impl.Record) []impl.Record { return impl.FactOf(forest(l), q).Links }, mark)
			checkFreshList(t, "L", func(l []impl.Record) []impl.Record { return impl.FactOf(forest(l), q).L }, mark)
		}
	}
}

// Zones, records and posts beyond the length do not count, and nothing is changed.
func TestFactsChangeNoForest(t *testing.T) {
	names := forestNames(factForest())
	for zones := range len(factForest().Zones) + 1 {
		whole := factForest()
		f := impl.Forest{Zones: whole.Zones[:zones], Posts: whole.Posts[:zones]}
		wantFactsAsModel(t, f, names, []int{impl.TyAddr})
		if !sameForest(whole, factForest()) {
			t.Errorf("a name space of %d zones was changed", zones)
		}
	}
	for length := range len(factForest().Zones[1].L) {
		whole := factForest()
		f := impl.Forest{Zones: slices.Clone(whole.Zones), Posts: whole.Posts}
		f.Zones[1].L = f.Zones[1].L[:length]
		wantFactsAsModel(t, f, names[:30], []int{impl.TyAddr})
		if !sameForest(whole, factForest()) {
			t.Errorf("%d records were changed", length)
		}
	}
}

// Comparing facts and writing them changes nothing, and reads nothing beyond the length.
func TestComparingFactsChangesNothing(t *testing.T) {
	for length := range 9 {
		links, l, other := records(12), records(12), records(12)
		fillRecords(other[length:], "x")
		changed := slices.Clone(other)
		a := impl.Fact{Links: links[:length], L: l[:length], End: true}
		b := impl.Fact{Links: other[:length], L: other[:length], End: true}
		wantSameFact(t, a, b, true)
		wantNoLater(t, a.L, b.L, true)
		wantNoLater(t, b.L, a.L, true)
		wantText(t, a, modelFactText(a))
		if length > 0 {
			wantNoLater(t, links[:length], other[:length-1], false)
			wantSameFact(t, a, impl.Fact{Links: links[:length-1], L: l[:length], End: true}, false)
		}
		wantList(t, "the links", links, records(12))
		wantList(t, "the records", l, records(12))
		wantList(t, "the other records", other, changed)
	}
}

// The same question has the same fact after whatever other questions.
func TestFactsAfterManyCalls(t *testing.T) {
	f, others := factForest(), oneChange()
	names := forestNames(f)
	want := map[string]impl.Fact{}
	for _, name := range names {
		want[name] = modelFact(f, impl.Quest{Name: name, Type: impl.TyAddr})
	}
	for i := range 300 {
		name, other := names[i*5%len(names)], others[i%len(others)]
		x := impl.FactOf(other, impl.Quest{Name: names[i*3%len(names)], Type: impl.TyAddr})
		impl.SameFact(x, want[name])
		impl.FactText(x)
		wantFact(t, f, impl.Quest{Name: name, Type: impl.TyAddr}, want[name])
	}
}
