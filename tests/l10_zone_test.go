package tests

import (
	"math"
	"slices"
	"strings"
	"testing"

	"loop.example/g00497/impl"
)

func start(name string, ttl int, n int) impl.Record {
	return impl.Record{Name: name, Type: impl.TyStart, Ttl: ttl, N: n, Host: "ns.com"}
}

// sortedZone has these records in the order of LessRecord.
func sortedZone(apex string, l ...impl.Record) impl.Zone {
	return impl.Zone{Apex: apex, L: modelSort(l)}
}

// withMore is z with further records, in the order of LessRecord.
func withMore(z impl.Zone, l ...impl.Record) impl.Zone {
	return sortedZone(z.Apex, slices.Concat(z.L, l)...)
}

// without is z without the record at this index.
func without(z impl.Zone, at int) impl.Zone {
	return impl.Zone{Apex: z.Apex, L: slices.Delete(slices.Clone(z.L), at, at+1)}
}

// smallest has only what every zone must have.
func smallest(apex string) impl.Zone {
	return sortedZone(apex, start(apex, 60, 30), server(apex, 60, "ns.com"))
}

// uncutZone has no cut. There are names under b.ex.com and under al.ex.com, but
// no record of b.ex.com, and an alias alone of al.ex.com.
func uncutZone() impl.Zone {
	return sortedZone("ex.com",
		start("ex.com", 60, 30), server("ex.com", 50, "ns.ex.com"), server("ex.com", 50, "ns.org"), addr("ex.com", 40, 7), addr("ex.com", 40, 8), text("ex.com", 0, "hi"),
		addr("ns.ex.com", 60, 3), addr("www.ex.com", 60, 7), text("www.ex.com", 70, ""), alias("al.ex.com", 60, "www.ex.com"), addr("x.al.ex.com", 60, 1),
		addr("a.b.ex.com", 60, 9), alias("xb.ex.com", 60, "org"),
	)
}

// cutZone has one cut, ex.com, with two servers and addresses at it and under it.
func cutZone() impl.Zone {
	return sortedZone("com",
		start("com", 60, 30), server("com", 60, "ns.com"), addr("ns.com", 60, 2), alias("al.com", 60, "www.ex.com"), text("xex.com", 60, "hi"),
		server("ex.com", 30, "ns.ex.com"), server("ex.com", 30, "ns.com"), addr("ex.com", 60, 5), addr("ns.ex.com", 60, 3), addr("ns.ex.com", 60, 4), addr("a.b.ex.com", 60, 6),
	)
}

// rootZone has several cuts. There is no record of uk, but a cut under it.
func rootZone() impl.Zone {
	return sortedZone("",
		start("", 60, 30), server("", 60, "ns.com"), server("", 60, "ns.org"), addr("", 60, 1), text("", 60, "root"), text("net", 60, "hi"),
		server("com", 60, "ns.com"), addr("ns.com", 60, 2), server("org", 60, "ns.org"), server("org", 60, "ns.com"), addr("ns.org", 60, 3), addr("ns.org", 60, 4),
		server("co.uk", 60, "ns.co.uk"), addr("ns.co.uk", 60, 5), server("ac.uk", 60, "ns.co.uk"), server("b.a.net", 60, ""),
	)
}

// fullZone has n records, more than any zone must have.
func fullZone(n int) impl.Zone {
	z := smallest("com")
	for i := range n - len(z.L) {
		z = withMore(z, addr("a.com", 60, i))
	}
	return z
}

func goodZones() []impl.Zone {
	out := []impl.Zone{uncutZone(), cutZone(), rootZone(), fullZone(impl.MaxZone)}
	for _, apex := range goodNames() {
		out = append(out, smallest(apex))
	}
	return out
}

// nestedZones have cuts below cuts, in all orders of the records.
func nestedZones() []impl.Zone {
	out := []impl.Zone{}
	permutations([]impl.Record{server("a.com", 60, "ns.com"), server("b.a.com", 60, "ns.com"), server("d.c.b.a.com", 60, "ns.com"), server("b.com", 60, "ns.com")}, func(l []impl.Record) {
		cuts := slices.Concat(smallest("com").L, l, []impl.Record{addr("x.d.c.b.a.com", 60, 1)})
		out = append(out, impl.Zone{Apex: "com", L: cuts}, impl.Zone{Apex: "", L: cuts}, impl.Zone{Apex: "a.com", L: cuts})
	})
	return out
}

// badZones are lists of any kind under any apex.
func badZones() []impl.Zone {
	out := nestedZones()
	lists := append(someLists()[:40], uncutZone().L, cutZone().L, rootZone().L, fullZone(60).L)
	for _, apex := range []string{"", "com", "ex.com", "org", "net", "A", "com.", ".", "a..b", "\xff"} {
		for _, l := range lists {
			out = append(out, impl.Zone{Apex: apex, L: l})
		}
	}
	return out
}

func modelUnder(a string, b string) bool {
	long, short := reversed(a), reversed(b)
	return len(short) <= len(long) && slices.Equal(long[:len(short)], short)
}

func modelCuts(z impl.Zone) []string {
	out := []string{}
	for _, r := range z.L {
		if r.Type == impl.TyServer && modelUnder(r.Name, z.Apex) && r.Name != z.Apex {
			out = append(out, r.Name)
		}
	}
	return modelFirsts(out)
}

func modelStart(l []impl.Record) impl.Record {
	for _, r := range l {
		if r.Type == impl.TyStart {
			return r
		}
	}
	return impl.Record{}
}

// modelPairsOk compares every record with every other one and with every cut.
func modelPairsOk(z impl.Zone) bool {
	cuts := modelCuts(z)
	for i, r := range z.L {
		for j, other := range z.L {
			if i == j || r.Name != other.Name {
				continue
			}
			if r.Type == impl.TyAlias || r.Type == other.Type && r.Ttl != other.Ttl {
				return false
			}
		}
		for _, cut := range cuts {
			if modelUnder(r.Name, cut) && r.Type != impl.TyAddr && !(r.Type == impl.TyServer && r.Name == cut) {
				return false
			}
		}
	}
	return true
}

func modelZoneOk(z impl.Zone) bool {
	if !impl.NameOk(z.Apex) || len(z.L) > impl.MaxZone {
		return false
	}
	starts, starts0, servers, aliases := 0, 0, 0, 0
	for i, r := range z.L {
		if !impl.RecordOk(r) || !modelUnder(r.Name, z.Apex) || i > 0 && modelCompare(z.L[i-1], r) >= 0 {
			return false
		}
		if r.Type == impl.TyStart {
			starts++
		}
		if r.Name != z.Apex {
			continue
		}
		switch r.Type {
		case impl.TyStart:
			starts0++
		case impl.TyServer:
			servers++
		case impl.TyAlias:
			aliases++
		}
	}
	return starts == 1 && starts0 == 1 && servers > 0 && aliases == 0 && modelPairsOk(z)
}

func wantZone(t *testing.T, why string, z impl.Zone, ok bool) {
	t.Helper()
	if impl.ZoneOk(z) != ok {
		t.Errorf("%s: ZoneOk(%s) = %v", why, brief(z), !ok)
	}
}

// wantCut fails if CutOf(z, name) is not this cut, or if InZone disagrees.
func wantCut(t *testing.T, z impl.Zone, name string, cut string) {
	t.Helper()
	if got, ok := impl.CutOf(z, name); got != cut || !ok {
		t.Errorf("CutOf(%s, %q) = %q, %v, want %q", brief(z), name, got, ok, cut)
	}
	if impl.InZone(z, name) {
		t.Errorf("InZone(%s, %q) = true", brief(z), name)
	}
}

// wantNoCut fails if there is a cut for the name, or if InZone is not in.
func wantNoCut(t *testing.T, z impl.Zone, name string, in bool) {
	t.Helper()
	if got, ok := impl.CutOf(z, name); got != "" || ok {
		t.Errorf("CutOf(%s, %q) = %q, %v", brief(z), name, got, ok)
	}
	if impl.InZone(z, name) != in {
		t.Errorf("InZone(%s, %q) = %v", brief(z), name, !in)
	}
}

func wantExists(t *testing.T, z impl.Zone, name string, want bool) {
	t.Helper()
	if impl.Exists(z, name) != want {
		t.Errorf("Exists(%s, %q) = %v", brief(z), name, !want)
	}
}

func wantStart(t *testing.T, z impl.Zone, want impl.Record) {
	t.Helper()
	if got := impl.StartOf(z); got != want {
		t.Errorf("StartOf(%s) = %s, want %s", brief(z), brief(got), brief(want))
	}
}

// wantPlace fails if CutOf, InZone or Exists differs from what the records say,
// or if the name is not in exactly one of three places: in the zone, under a cut
// of it, or not under its apex.
func wantPlace(t *testing.T, z impl.Zone, cuts []string, name string) {
	t.Helper()
	at := slices.IndexFunc(cuts, func(cut string) bool { return modelUnder(name, cut) })
	if at >= 0 {
		wantCut(t, z, name, cuts[at])
	} else {
		wantNoCut(t, z, name, modelUnder(name, z.Apex))
	}
	places := 0
	_, down := impl.CutOf(z, name)
	for _, is := range []bool{impl.InZone(z, name), down, !impl.Under(name, z.Apex)} {
		if is {
			places++
		}
	}
	if places != 1 {
		t.Errorf("%q is in %d places of %s", name, places, brief(z))
	}
	wantExists(t, z, name, slices.ContainsFunc(z.L, func(r impl.Record) bool { return modelUnder(r.Name, name) }))
}

// wantZoneAsModel fails if a function of the chapter differs from its model.
func wantZoneAsModel(t *testing.T, z impl.Zone, names []string) {
	t.Helper()
	cuts := modelCuts(z)
	wantZone(t, "the model", z, modelZoneOk(z))
	wantList(t, "CutsOf", impl.CutsOf(z), cuts)
	for _, name := range names {
		wantPlace(t, z, cuts, name)
		wantList(t, "Glue", impl.Glue(z, []string{name}), modelSet(z.L, name, impl.TyAddr))
	}
	wantStart(t, z, modelStart(z.L))
}

// zoneNames are the names of the records, and names above, below and beside them.
func zoneNames(z impl.Zone) []string {
	out := []string{z.Apex, "x." + z.Apex, "x" + z.Apex, z.Apex + "x", "", "com", "none"}
	for _, r := range z.L {
		out = append(out, r.Name, r.Host, "x."+r.Name, "x"+r.Name, r.Name+"x", impl.Up(r.Name))
	}
	return modelFirsts(out)
}

func TestEveryNameHasOnePlace(t *testing.T) {
	names := append(someNames(), someBadNames()...)
	for _, z := range append(badZones(), goodZones()[:20]...) {
		wantZoneAsModel(t, z, zoneNames(z))
	}
	for _, z := range []impl.Zone{uncutZone(), cutZone(), rootZone(), nestedZones()[0], nestedZones()[71], {}, {Apex: "."}, {Apex: "A", L: invalidMixture()}} {
		wantZoneAsModel(t, z, append(names, badNames()...))
	}
}

func TestGoodZones(t *testing.T) {
	for _, z := range goodZones() {
		wantZone(t, "valid", z, true)
	}
	for _, z := range goodZones()[:4] {
		cuts := impl.CutsOf(z)
		for _, r := range z.L {
			_, down := impl.CutOf(z, r.Name)
			if impl.InZone(z, r.Name) == down {
				t.Errorf("%s is in the zone: %v, under a cut: %v", brief(r), !down, down)
			}
			if down && r.Type != impl.TyAddr && !(r.Type == impl.TyServer && slices.Contains(cuts, r.Name)) {
				t.Errorf("%s is under a cut", brief(r))
			}
			wantExists(t, z, r.Name, true)
		}
	}
}

func TestZoneWithoutCut(t *testing.T) {
	z := uncutZone()
	wantList(t, "CutsOf", impl.CutsOf(z), nil)
	for _, name := range []string{"ex.com", "www.ex.com", "b.ex.com", "a.b.ex.com", "al.ex.com", "x.al.ex.com", "none.ex.com", "x.y.www.ex.com"} {
		wantNoCut(t, z, name, true)
	}
	for _, name := range []string{"", "com", "org", "xex.com", "ex.comx", "ex.org", "ex.xcom", "ex", "ns.org", "ex.com.org", "com.ex"} {
		wantNoCut(t, z, name, false)
	}
	for _, name := range []string{"", "com", "ex.com", "b.ex.com", "a.b.ex.com", "al.ex.com", "xb.ex.com"} {
		wantExists(t, z, name, true)
	}
	for _, name := range []string{"x.com", "xex.com", "ex.co", "none.ex.com", "x.b.ex.com", "x.a.b.ex.com", "bb.ex.com", "l.ex.com", "a.b", "ns.org", "org"} {
		wantExists(t, z, name, false)
	}
	wantStart(t, z, start("ex.com", 60, 30))
}

func TestZoneWithOneCut(t *testing.T) {
	z := cutZone()
	wantList(t, "CutsOf", impl.CutsOf(z), []string{"ex.com"})
	for _, name := range []string{"ex.com", "ns.ex.com", "www.ex.com", "b.ex.com", "a.b.c.d.ex.com", "ex.com.ex.com"} {
		wantCut(t, z, name, "ex.com")
	}
	for _, name := range []string{"com", "ns.com", "al.com", "xex.com", "x.xex.com", "exx.com", "none.com", "ex.x.com", "com.com", "ex.com.com"} {
		wantNoCut(t, z, name, true)
	}
	for _, name := range []string{"", "org", "ex", "ex.org", "ex.xcom", "ex.comx", "ex.co", "ex.com.org", "comx", "xcom"} {
		wantNoCut(t, z, name, false)
	}
	for _, name := range []string{"", "com", "ex.com", "ns.ex.com", "b.ex.com", "xex.com"} {
		wantExists(t, z, name, true)
	}
	for _, name := range []string{"www.ex.com", "x.ns.ex.com", "none.com", "org", "ex.org", "ex", "s.com"} {
		wantExists(t, z, name, false)
	}
}

// The root is the apex of a zone like any other, and it is no cut of it.
func TestZoneOfTheRoot(t *testing.T) {
	z := rootZone()
	wantList(t, "CutsOf", impl.CutsOf(z), []string{"com", "b.a.net", "org", "ac.uk", "co.uk"})
	for name, cut := range map[string]string{"com": "com", "ns.com": "com", "org.com": "com", "org": "org", "com.org": "org", "co.uk": "co.uk", "x.co.uk": "co.uk", "ac.uk": "ac.uk", "b.a.net": "b.a.net", "c.b.a.net": "b.a.net"} {
		wantCut(t, z, name, cut)
	}
	for _, name := range []string{"", "uk", "me.uk", "net", "a.net", "c.a.net", "b.net", "x", "com.x", "xcom", "co", "o.uk"} {
		wantNoCut(t, z, name, true)
	}
	for _, name := range []string{"", "uk", "a.net", "net", "com", "co.uk"} {
		wantExists(t, z, name, true)
	}
	for _, name := range []string{"x", "me.uk", "k", "b.net", "x.co.uk", "www.com", "om"} {
		wantExists(t, z, name, false)
	}
	for _, name := range append(goodNames(), badNames()...) {
		wantNoCut(t, smallest(""), name, true)
		wantExists(t, smallest(""), name, name == "")
		wantExists(t, smallest(name), "", true)
		wantNoCut(t, smallest(name), "", name == "")
	}
}

// The servers of the apex make no cut, nor do those of names that are not under it.
func TestServersThatMakeNoCut(t *testing.T) {
	for _, apex := range []string{"", "com", "ex.com", "org", "COM"} {
		z := impl.Zone{Apex: apex, L: []impl.Record{server(apex, 60, "a"), server("", 60, "b"), server(apex, 60, "c"), server("x.y", 60, "d"), server("xcom", 60, "e"), server("com.xx", 60, "f")}}
		want := []string{}
		if apex == "" {
			want = []string{"x.y", "xcom", "com.xx"}
		}
		wantList(t, "CutsOf", impl.CutsOf(z), want)
		wantNoCut(t, z, apex, true)
		wantNoCut(t, z, "none."+apex, true)
		wantNoCut(t, z, "", apex == "")
		wantZone(t, "servers alone", z, false)
	}
	z := cutZone()
	z.Apex = "ex.com"
	wantList(t, "CutsOf", impl.CutsOf(z), nil)
	wantNoCut(t, z, "ns.ex.com", true)
	wantNoCut(t, z, "com", false)
	for _, ty := range append(noTypes(), impl.TyAddr, impl.TyAlias, impl.TyStart, impl.TyText) {
		z := impl.Zone{Apex: "com", L: []impl.Record{{Name: "ex.com", Type: ty, Host: "ns.com"}}}
		wantList(t, "CutsOf", impl.CutsOf(z), nil)
		wantNoCut(t, z, "ex.com", true)
	}
}

// Where one cut is below another, the order of the records decides, not which of
// them is higher.
func TestCutBelowCut(t *testing.T) {
	front := smallest("com").L
	upper, lower := server("a.com", 60, "ns.com"), server("b.a.com", 60, "ns.com")
	down := impl.Zone{Apex: "com", L: slices.Concat(front, []impl.Record{upper, lower})}
	wantList(t, "CutsOf", impl.CutsOf(down), []string{"a.com", "b.a.com"})
	for _, name := range []string{"a.com", "x.a.com", "b.a.com", "x.b.a.com", "bb.a.com"} {
		wantCut(t, down, name, "a.com")
	}
	up := impl.Zone{Apex: "com", L: slices.Concat(front, []impl.Record{lower, upper, lower})}
	wantList(t, "CutsOf", impl.CutsOf(up), []string{"b.a.com", "a.com"})
	for name, cut := range map[string]string{"a.com": "a.com", "x.a.com": "a.com", "bb.a.com": "a.com", "b.a.com": "b.a.com", "x.b.a.com": "b.a.com", "y.x.b.a.com": "b.a.com"} {
		wantCut(t, up, name, cut)
	}
	for _, z := range []impl.Zone{down, up} {
		wantNoCut(t, z, "com", true)
		wantNoCut(t, z, "b.com", true)
		wantNoCut(t, z, "b.a.org", false)
		wantZone(t, "a cut below a cut", z, false)
		wantZone(t, "a cut below a cut, sorted", sortedZone("com", z.L...), false)
	}
}

// A server below a cut makes a cut of its own and is not a server of the one
// above it, however many names are in between.
func TestZoneWithNestedCutsIsInvalid(t *testing.T) {
	for _, z := range nestedZones() {
		wantZone(t, "nested cuts", z, false)
		wantZone(t, "nested cuts, sorted", sortedZone(z.Apex, z.L...), false)
	}
	z := cutZone()
	for _, name := range []string{"a.ex.com", "ex.com.ex.com", "a.b.c.d.ex.com"} {
		wantZone(t, "a cut below a cut", withMore(z, server(name, 60, "ns.com")), false)
		wantZone(t, "a cut below a cut", withMore(z, server(name, 60, "ns.com"), addr(name, 60, 1)), false)
		wantZone(t, "an address below a cut", withMore(z, addr(name, 60, 1)), true)
	}
	for _, name := range []string{"exx.com", "a.com", "a.b.c.d.com", "a.al.com"} {
		wantZone(t, "a cut beside a cut", withMore(z, server(name, 60, "ns.com"), addr("x."+name, 60, 1)), true)
	}
}

func TestApexOfZone(t *testing.T) {
	for _, apex := range badNames() {
		wantZone(t, "an invalid apex", smallest(apex), false)
		wantZone(t, "an invalid apex", impl.Zone{Apex: apex}, false)
		for _, z := range []impl.Zone{uncutZone(), cutZone(), rootZone()} {
			z.Apex = apex
			wantZone(t, "an invalid apex of other records", z, false)
		}
	}
	for _, z := range goodZones()[:3] {
		for _, apex := range goodNames() {
			wantZone(t, "another apex", impl.Zone{Apex: apex, L: z.L}, apex == z.Apex)
		}
	}
}

// A valid zone has no place for an invalid record, wherever it would stand.
func TestZoneWithInvalidRecord(t *testing.T) {
	z := cutZone()
	for i, bad := range badRecords() {
		wantZone(t, "an invalid record", withMore(z, bad), false)
		other := withMore(without(z, i%len(z.L)), bad)
		wantZone(t, "an invalid record in place of another", other, false)
	}
	for i, r := range z.L {
		for _, change := range []func(r *impl.Record){
			func(r *impl.Record) { r.Ttl = -1 }, func(r *impl.Record) { r.Ttl = impl.MaxTtl + 1 }, func(r *impl.Record) { r.N = -1 }, func(r *impl.Record) { r.N = impl.MaxFour + 1 },
			func(r *impl.Record) { r.Host = "A" }, func(r *impl.Record) { r.Text = " " }, func(r *impl.Record) { r.Type += 20 }, func(r *impl.Record) { r.Name = "A." + r.Name },
		} {
			bad := r
			change(&bad)
			wantZone(t, "a record that is invalid now", withMore(without(z, i), bad), false)
		}
	}
	for _, text := range badTexts() {
		if text != "" {
			wantZone(t, "a text", withMore(z, impl.Record{Name: "a.com", Type: impl.TyText, Ttl: 60, Text: text}), false)
		}
	}
	for _, text := range goodTexts() {
		wantZone(t, "a text", withMore(z, impl.Record{Name: "a.com", Type: impl.TyText, Ttl: 60, Text: text}), true)
	}
	for _, n := range addrValues() {
		wantZone(t, "an address", withMore(z, addr("a.com", impl.MaxTtl, n)), true)
	}
}

func TestZoneWithNameOutsideApex(t *testing.T) {
	for _, name := range []string{"", "org", "xcom", "comx", "com.org", "co", "ex.xcom", "a.b.org"} {
		for _, r := range oneOfEach(name) {
			wantZone(t, "a name not under the apex", withMore(cutZone(), r), false)
		}
	}
	for _, name := range []string{"com", "", "xex.com", "x.com", "com.ex"} {
		wantZone(t, "a name not under the apex", withMore(uncutZone(), text(name, 60, "hi")), false)
	}
	for _, name := range goodNames() {
		if modelUnder(name, "com") && !modelUnder(name, "ex.com") && name != "al.com" {
			wantZone(t, "a name under the apex", withMore(cutZone(), text(name, 60, "more")), true)
		}
	}
}

// Every order but one is rejected, and every record may stand there only once.
func TestOrderOfZone(t *testing.T) {
	for _, z := range goodZones()[:4] {
		for i := range z.L {
			for j := range z.L {
				l := slices.Clone(z.L)
				l[i], l[j] = l[j], l[i]
				wantZone(t, "two records swapped", impl.Zone{Apex: z.Apex, L: l}, i == j)
			}
			if len(z.L) < impl.MaxZone {
				wantZone(t, "a record twice", withMore(z, z.L[i]), false)
				wantZone(t, "a record again at the end", impl.Zone{Apex: z.Apex, L: append(slices.Clone(z.L), z.L[i])}, false)
			}
		}
	}
	valid := 0
	permutations(slices.Concat(smallest("com").L, []impl.Record{addr("a.com", 60, 1), addr("a.com", 60, 2), text("b.com", 60, "a"), text("b.com", 60, "b")}), func(l []impl.Record) {
		if impl.ZoneOk(impl.Zone{Apex: "com", L: l}) {
			valid++
		}
	})
	if valid != 1 {
		t.Errorf("%d orders of the records are valid", valid)
	}
}

// The times to live are equal within a name and type, and arbitrary elsewhere.
func TestTimesToLiveOfZone(t *testing.T) {
	z := smallest("com")
	for _, ttl := range ttlValues() {
		same := ttl == 60
		wantZone(t, "addresses", withMore(z, addr("a.com", 60, 1), addr("a.com", ttl, 2)), same)
		wantZone(t, "three addresses", withMore(z, addr("a.com", 60, 1), addr("a.com", 60, 2), addr("a.com", ttl, 3)), same)
		wantZone(t, "texts", withMore(z, text("a.com", 60, ""), text("a.com", ttl, "a")), same)
		wantZone(t, "servers of a cut", withMore(z, server("a.com", 60, "a"), server("a.com", ttl, "b")), same)
		wantZone(t, "servers of the apex", withMore(z, server("com", ttl, "x.com")), same)
		wantZone(t, "addresses under a cut", withMore(z, server("a.com", 60, "a"), addr("a.com", 60, 1), addr("a.com", ttl, 2)), same)
		wantZone(t, "the same data", withMore(z, addr("a.com", 60, 1), addr("a.com", ttl, 1)), false)
		wantZone(t, "two types", withMore(z, addr("a.com", 60, 1), text("a.com", ttl, "a")), true)
		wantZone(t, "two names", withMore(z, addr("a.com", 60, 1), addr("b.com", ttl, 2)), true)
		wantZone(t, "a name and one under it", withMore(z, addr("a.com", 60, 1), addr("b.a.com", ttl, 1)), true)
	}
}

func TestStartOfZone(t *testing.T) {
	z := smallest("com")
	noStart := withMore(without(z, 1), addr("com", 60, 1))
	wantZone(t, "no start", noStart, false)
	wantZone(t, "no start", impl.Zone{Apex: "", L: without(smallest(""), 1).L}, false)
	wantZone(t, "one start", withMore(noStart, start("com", 0, 0)), true)
	for _, name := range []string{"a.com", "com.com", "a.b.com"} {
		wantZone(t, "a start of another name", withMore(noStart, start(name, 60, 30)), false)
		wantZone(t, "a start of another name as well", withMore(z, start(name, 60, 30)), false)
	}
	for _, n := range []int{0, 29, 31, impl.MaxTtl} {
		wantZone(t, "two starts", withMore(z, start("com", 60, n)), false)
		wantZone(t, "three starts", withMore(z, start("com", 60, n), start("com", 60, 7)), false)
		wantZone(t, "another start", withMore(noStart, start("com", 60, n)), true)
	}
	for _, host := range []string{"", "ns.org", "x.com"} {
		other := impl.Record{Name: "com", Type: impl.TyStart, Ttl: 60, N: 30, Host: host}
		wantZone(t, "two starts of two hosts", withMore(z, other), false)
		wantZone(t, "a start of another host", withMore(noStart, other), true)
	}
}

func TestServersOfApex(t *testing.T) {
	alone := sortedZone("com", start("com", 60, 30), addr("com", 60, 1))
	wantZone(t, "no server", alone, false)
	wantZone(t, "a server of a cut only", withMore(alone, server("a.com", 60, "com"), server("b.com", 60, "com")), false)
	wantZone(t, "an alias of the apex only", withMore(alone, alias("com", 60, "ns.com")), false)
	for _, host := range someNames() {
		wantZone(t, "one server", withMore(alone, server("com", 60, host)), true)
		wantZone(t, "two servers", withMore(alone, server("com", 60, host), server("com", 60, "more.com")), true)
	}
}

func TestAliasesOfZone(t *testing.T) {
	z := cutZone()
	for _, apex := range []string{"", "com", "ex.com"} {
		wantZone(t, "an alias of the apex", withMore(smallest(apex), alias(apex, 60, "a.org")), false)
		wantZone(t, "an alias of the apex", withMore(smallest(apex), alias(apex, 60, apex)), false)
		wantZone(t, "an alias of the apex alone", sortedZone(apex, alias(apex, 60, "a.org")), false)
	}
	for _, r := range append(oneOfEach("al.com"), alias("al.com", 60, ""), alias("al.com", 30, "www.ex.com"), addr("al.com", 0, 0)) {
		wantZone(t, "an alias with another record", withMore(z, r), false)
	}
	for _, host := range someNames() {
		wantZone(t, "an alias", withMore(z, alias("a.com", 60, host)), true)
		wantZone(t, "an alias of a name with an address", withMore(z, alias("ns.com", 60, host)), false)
		wantZone(t, "an alias of a name with a text", withMore(z, alias("xex.com", 60, host)), false)
		wantZone(t, "two aliases", withMore(z, alias("a.com", 60, host), alias("a.com", 60, "more.com")), false)
	}
	for _, name := range []string{"x.al.com", "x.y.al.com", "l.com", "a.l.com", "xal.com", "com.com"} {
		wantZone(t, "a name that is not that of the alias", withMore(z, addr(name, 60, 1), text(name, 60, "a")), true)
	}
}

// Under a cut, at it and below it, there is room for addresses; the servers are
// those of the cut itself.
func TestRecordsUnderCut(t *testing.T) {
	for _, z := range []impl.Zone{cutZone(), withMore(smallest("com"), server("ex.com", 60, "ns.com")), withMore(smallest(""), server("ex.com", 60, "ns.com"))} {
		wantZone(t, "one cut", z, true)
		ttl := impl.LeastTtl(modelSet(z.L, "ex.com", impl.TyServer))
		for _, name := range []string{"ex.com", "x.ex.com", "ex.com.ex.com", "x.y.z.ex.com", "b.ex.com"} {
			wantZone(t, "an address under the cut", withMore(z, addr(name, 60, 1), addr(name, 60, 2)), true)
			wantZone(t, "an alias under the cut", withMore(z, alias(name, 60, "a.com")), false)
			wantZone(t, "a text under the cut", withMore(z, text(name, 60, "a")), false)
			wantZone(t, "a start under the cut", withMore(z, start(name, 60, 30)), false)
			wantZone(t, "a server under the cut", withMore(z, server(name, ttl, "ns.org")), name == "ex.com")
		}
		for _, name := range []string{"x.xex.com", "ex.a.com", "ex.com.com", "e.com", "x.com"} {
			wantZone(t, "records beside the cut", withMore(z, text(name, 60, "a"), addr(name, 60, 1)), true)
			wantZone(t, "an alias beside the cut", withMore(z, alias(name, 60, "ex.com")), true)
		}
	}
	deep := withMore(smallest(""), server("c.b.a", 60, "ns.com"))
	for _, name := range []string{"", "a", "b.a", "d.b.a", "c.b", "c"} {
		wantZone(t, "a text above the cut", withMore(deep, text(name, 60, "a")), true)
	}
	wantZone(t, "a text at the cut", withMore(deep, text("c.b.a", 60, "a")), false)
}

func TestSizeOfZone(t *testing.T) {
	if impl.MaxZone != 20 {
		t.Error(impl.MaxZone)
	}
	for n := 2; n < 45; n++ {
		wantZone(t, "a zone with many addresses", fullZone(n), n <= impl.MaxZone)
	}
	for _, z := range goodZones()[:3] {
		for n := 1; len(z.L)+n < 30; n++ {
			more := []impl.Record{}
			for i := range n {
				more = append(more, text(strings.TrimSuffix("more."+z.Apex, "."), 60, strings.Repeat("a", i%12)+strings.Repeat("b", i/12)))
			}
			wantZone(t, "more records", withMore(z, more...), len(z.L)+n <= impl.MaxZone)
		}
	}
	wantZone(t, "a thousand records", impl.Zone{Apex: "ex.com", L: goodRecords()[:1000]}, false)
}

// All parts of a list that has something for and against every condition.
func TestZoneOkOfAllParts(t *testing.T) {
	all := modelSort([]impl.Record{
		start("com", 60, 30), start("com", 60, 31), server("com", 60, "a"), alias("com", 60, "b"), server("ex.com", 60, "a"), addr("ex.com", 60, 1), addr("ex.com", 50, 2),
		text("ex.com", 60, "a"), server("b.ex.com", 60, "a"), addr("b.ex.com", 60, 1), alias("al.com", 60, "a"), addr("al.com", 60, 1), addr("x.al.com", 60, 1), addr("org", 60, 1),
	})
	valid := 0
	for bits := range 1 << len(all) {
		l := []impl.Record{}
		for i, r := range all {
			if bits>>i&1 == 1 {
				l = append(l, r)
			}
		}
		want := modelZoneOk(impl.Zone{Apex: "com", L: l})
		if want {
			valid++
		}
		wantZone(t, "a part", impl.Zone{Apex: "com", L: l}, want)
		wantZone(t, "a part of another apex", impl.Zone{Apex: "ex.com", L: l}, false)
	}
	// Two starts; six choices of records of ex.com and below it with a cut there and
	// 24 without; six of al.com and below it.
	if valid != 2*(6+24)*6 {
		t.Errorf("%d parts are valid", valid)
	}
}

// Zones that are drawn from few names, sorted or not, with or without what every
// zone must have.
func TestDrawnZones(t *testing.T) {
	next := draws(10)
	names := []string{"", "com", "ex.com", "a.ex.com", "b.a.ex.com", "xex.com", "org", "a.org", "ex.org", "A"}
	valid, several := 0, 0
	for range 6000 {
		apex := names[next(4)]
		l := []impl.Record{}
		if next(6) > 0 {
			l = smallest(apex).L
		}
		for range next(7) {
			name := names[next(len(names))]
			if next(3) > 0 {
				name = strings.Trim(names[next(3)]+"."+apex, ".")
			}
			kinds := []impl.Record{addr(name, 60, next(2)), server(name, 60, names[next(3)]), server(name, 60-next(2), "a"), text(name, 60, "a"), alias(name, 60, "a"), start(name, 60, next(2)), {}}
			l = append(l, kinds[next(len(kinds))])
		}
		z := impl.Zone{Apex: apex, L: l}
		if next(4) > 0 {
			z = sortedZone(apex, modelFirsts(l)...)
		}
		if modelZoneOk(z) {
			valid++
		}
		if len(modelCuts(z)) > 1 {
			several++
		}
		wantZoneAsModel(t, z, append(names, "x.b.a.ex.com", "x.com", apex+"x", "com.com"))
	}
	if valid < 1000 || several < 300 {
		t.Errorf("%d zones are valid, and %d have several cuts", valid, several)
	}
}

// The first start of authority counts, whatever its name, and the zero record if
// there is none.
func TestStartOf(t *testing.T) {
	for _, z := range goodZones() {
		wantStart(t, z, start(z.Apex, 60, 30))
		wantStart(t, impl.Zone{Apex: "a.org", L: z.L}, start(z.Apex, 60, 30))
	}
	permutations([]impl.Record{start("org", 60, 1), start("com", 60, 2), {Name: "A", Type: impl.TyStart, Ttl: -1, N: -1, Host: "..", Text: "x"}, addr("com", 60, 1)}, func(l []impl.Record) {
		wantStart(t, impl.Zone{Apex: "com", L: l}, modelStart(l))
		for n := range l {
			wantStart(t, impl.Zone{Apex: "com", L: l[n:]}, modelStart(l[n:]))
		}
	})
	for _, ty := range append(noTypes(), impl.TyAddr, impl.TyServer, impl.TyAlias, impl.TyText) {
		r := impl.Record{Name: "com", Type: ty, Ttl: 60, N: 30, Host: "ns.com"}
		wantStart(t, impl.Zone{Apex: "com", L: []impl.Record{r, r}}, impl.Record{})
		wantStart(t, impl.Zone{Apex: "com", L: []impl.Record{r, start("com", 60, 3), r}}, start("com", 60, 3))
	}
}

// The hosts decide the order, and how often the addresses of a host occur; the
// records decide the order of the addresses of one host.
func TestGlue(t *testing.T) {
	z := cutZone()
	one, two, deep := []impl.Record{addr("ns.com", 60, 2)}, []impl.Record{addr("ns.ex.com", 60, 3), addr("ns.ex.com", 60, 4)}, []impl.Record{addr("a.b.ex.com", 60, 6)}
	for _, c := range []struct {
		hosts []string
		want  []impl.Record
	}{
		{[]string{"ns.com"}, one},
		{[]string{"ns.ex.com", "ns.com"}, slices.Concat(two, one)},
		{[]string{"ns.com", "ns.ex.com"}, slices.Concat(one, two)},
		{[]string{"a.b.ex.com", "ns.com", "ns.ex.com"}, slices.Concat(deep, one, two)},
		{[]string{"ns.ex.com", "ns.com", "ns.ex.com", "ns.ex.com"}, slices.Concat(two, one, two, two)},
		{[]string{"none.com", "ns.com", "ns.org", "ns.com"}, slices.Concat(one, one)},
		{[]string{"al.com", "com", "xex.com", "b.ex.com", "ns.com"}, one},
		{[]string{"ex.com"}, []impl.Record{addr("ex.com", 60, 5)}},
		{[]string{"none.com", "", "al.com", "b.ex.com", "x.ns.com", "s.com", "ns", "ns.com.", "NS.com", "."}, nil},
		{nil, nil},
		{[]string{}, nil},
	} {
		wantList(t, "Glue of "+brief(c.hosts), impl.Glue(z, c.hosts), c.want)
		wantList(t, "Glue without records", impl.Glue(impl.Zone{Apex: "com"}, c.hosts), nil)
	}
	wantList(t, "Glue of the root", impl.Glue(rootZone(), []string{"ns.org", "", "ns.com"}), []impl.Record{addr("ns.org", 60, 3), addr("ns.org", 60, 4), addr("", 60, 1), addr("ns.com", 60, 2)})
}

// Glue takes no notice of the apex and the cuts, nor of what is invalid.
func TestGlueOfOtherRecords(t *testing.T) {
	l := []impl.Record{addr("b", 9, 4), addr("a", 60, 2), server("a", 60, "b"), addr("b", -1, -4), addr("a", 60, 2), {Name: "a", Type: impl.TyAddr, Host: "x", Text: "y"}, addr("A", 60, 1), addr("", 60, 3), {Name: "a", Type: 3, N: 1}, addr("..", 1, 1)}
	for _, apex := range []string{"", "a", "b", "org", "."} {
		z := impl.Zone{Apex: apex, L: l}
		wantList(t, "Glue of a", impl.Glue(z, []string{"a"}), []impl.Record{l[1], l[4], l[5]})
		wantList(t, "Glue of all", impl.Glue(z, []string{"..", "b", "", "A", "a", "b"}), []impl.Record{l[9], l[0], l[3], l[7], l[6], l[1], l[4], l[5], l[0], l[3]})
	}
	for _, name := range append(badNames(), someNames()...) {
		z := impl.Zone{L: []impl.Record{addr("other", 60, 1), addr(name, 60, 2), text(name, 60, "a"), addr("x."+name, 60, 3), addr(name, 50, math.MinInt)}}
		wantList(t, "Glue of "+brief(name), impl.Glue(z, []string{name}), []impl.Record{z.L[1], z.L[4]})
	}
	for _, z := range badZones()[:200] {
		hosts := append(zoneNames(z), zoneNames(z)...)
		want := []impl.Record{}
		for _, host := range hosts {
			want = append(want, modelSet(z.L, host, impl.TyAddr)...)
		}
		wantList(t, "Glue of many", impl.Glue(z, hosts), want)
	}
}

// Cuts come in record order, each where its first server stands.
func TestCutsOf(t *testing.T) {
	l := []impl.Record{server("d.com", 60, "a"), server("b.com", 60, "a"), server("com", 60, "a"), server("d.com", 60, "b"), server("a.b.com", 60, "a"), addr("x.com", 60, 1), server("b.com", 60, "b"), server("org", 60, "a"), server("c.com", 60, "a")}
	permutations(l[:7], func(l []impl.Record) {
		z := impl.Zone{Apex: "com", L: l}
		wantList(t, "CutsOf", impl.CutsOf(z), modelCuts(z))
	})
	wantList(t, "CutsOf com", impl.CutsOf(impl.Zone{Apex: "com", L: l}), []string{"d.com", "b.com", "a.b.com", "c.com"})
	wantList(t, "CutsOf the root", impl.CutsOf(impl.Zone{Apex: "", L: l}), []string{"d.com", "b.com", "com", "a.b.com", "org", "c.com"})
	wantList(t, "CutsOf b.com", impl.CutsOf(impl.Zone{Apex: "b.com", L: l}), []string{"a.b.com"})
	wantList(t, "CutsOf org", impl.CutsOf(impl.Zone{Apex: "org", L: l}), nil)
	many := []string{}
	for _, r := range manyNames(150) {
		many = append(many, r.Name)
	}
	wantList(t, "CutsOf many", impl.CutsOf(impl.Zone{Apex: "", L: slices.Concat(manyNames(150), manyNames(100))}), many)
}

// Records beyond MaxZone count for all functions but ZoneOk.
func TestZoneOfManyRecords(t *testing.T) {
	l := slices.Concat(slices.Repeat([]impl.Record{addr("com", 60, 1)}, 1000), []impl.Record{start("com", 60, 30), server("ex.com", 60, "ns.com"), addr("ns.org", 60, 2)})
	z := impl.Zone{Apex: "com", L: l}
	wantCut(t, z, "x.ex.com", "ex.com")
	wantNoCut(t, z, "x.com", true)
	wantExists(t, z, "org", true)
	wantStart(t, z, start("com", 60, 30))
	wantList(t, "CutsOf", impl.CutsOf(z), []string{"ex.com"})
	wantList(t, "Glue", impl.Glue(z, []string{"ns.org", "com"}), append([]impl.Record{addr("ns.org", 60, 2)}, l[:1000]...))
	wantZone(t, "many records", z, false)
}

func TestZoneWithoutRecords(t *testing.T) {
	for _, l := range [][]impl.Record{nil, {}, cutZone().L[:0], cutZone().L[3:3]} {
		for _, apex := range append(someNames(), someBadNames()...) {
			z := impl.Zone{Apex: apex, L: l}
			wantZone(t, "no records", z, false)
			wantList(t, "CutsOf", impl.CutsOf(z), nil)
			wantStart(t, z, impl.Record{})
			for _, name := range append(someNames(), someBadNames()...) {
				wantNoCut(t, z, name, modelUnder(name, apex))
				wantExists(t, z, name, false)
			}
			for _, hosts := range [][]string{nil, {}, {""}, {apex, apex}, someNames(), badNames()[:50]} {
				wantList(t, "Glue", impl.Glue(z, hosts), nil)
			}
		}
	}
}

func TestZonesShareNoMemory(t *testing.T) {
	mark := impl.Record{Name: "x", Type: impl.TyText, Ttl: 3, N: 4, Host: "x", Text: "x"}
	for _, apex := range []string{"", "com", "ex.com", "org", "."} {
		checkFreshList(t, "CutsOf", func(l []impl.Record) []string { return impl.CutsOf(impl.Zone{Apex: apex, L: l}) }, "x")
		for _, hosts := range [][]string{nil, {"ex.com"}, {"ns.com"}, {"none"}, {"", "ex.com", ""}} {
			checkFreshList(t, "Glue", func(l []impl.Record) []impl.Record { return impl.Glue(impl.Zone{Apex: apex, L: l}, hosts) }, mark)
		}
	}
	l := []impl.Record{addr("a", 60, 1), addr("a", 60, 2), addr("a", 60, 3)}
	before := slices.Clone(l)
	fillRecords(impl.Glue(impl.Zone{L: l}, []string{"a"}), "x")
	wantList(t, "the records", l, before)
}

// No function changes the records or the hosts, reads beyond their length or
// writes there.
func TestZonesChangeNothing(t *testing.T) {
	for _, z := range append(goodZones()[:4], nestedZones()[:8]...) {
		names := zoneNames(z)
		whole, hosts := slices.Clone(z.L), slices.Clone(names)
		for length := range len(whole) + 1 {
			part, same := impl.Zone{Apex: z.Apex, L: whole[:length]}, impl.Zone{Apex: z.Apex, L: slices.Clone(z.L[:length])}
			wantZoneAsModel(t, part, hosts)
			wantZone(t, "a copy", same, impl.ZoneOk(part))
			for n := range hosts {
				wantList(t, "Glue", impl.Glue(part, hosts[:n]), impl.Glue(same, slices.Clone(names[:n])))
			}
			wantList(t, "the records", whole, z.L)
			wantList(t, "the hosts", hosts, names)
		}
	}
}

// The same zone gives the same results after whatever other zones.
func TestZonesAfterManyCalls(t *testing.T) {
	z, others := rootZone(), append(badZones()[:100], goodZones()...)
	for i := range 300 {
		other := others[i*7%len(others)]
		impl.ZoneOk(other)
		impl.InZone(other, "com")
		impl.StartOf(other)
		impl.Glue(other, []string{"ns.com", "ex.com"})
		wantZoneAsModel(t, z, []string{"", "com", "ns.com", "ns.org", "uk", "x.co.uk", "none"})
	}
}
