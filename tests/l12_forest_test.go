package tests

import (
	"math"
	"slices"
	"testing"

	"loop.example/g00497/impl"
)

func post(n int, apex string) impl.Post {
	return impl.Post{Addr: n, Apex: apex}
}

// zoneOfThese has a start of authority besides these records.
func zoneOfThese(apex string, l ...impl.Record) impl.Zone {
	return sortedZone(apex, append(l, start(apex, 60, 30))...)
}

// treeForest is valid: the root (0), com (1), org (2), and ex.com below com (3). One
// server is shared by three zones: ns.org, at the address 4.
func treeForest() impl.Forest {
	return impl.Forest{
		Zones: []impl.Zone{
			zoneOfThese("", server("", 60, "a.root"), addr("a.root", 60, 1),
				server("com", 60, "ns.com"), server("com", 60, "ns.org"), addr("ns.com", 60, 2), addr("ns.com", 60, 3), server("org", 60, "ns.org"), addr("ns.org", 60, 4)),
			zoneOfThese("com", server("com", 60, "ns.com"), server("com", 60, "ns.org"), addr("ns.com", 60, 2), addr("ns.com", 60, 3),
				server("ex.com", 60, "ns.ex.com"), server("ex.com", 60, "ns.org"), addr("ns.ex.com", 60, 5), alias("al.com", 60, "www.ex.com"), text("b.a.com", 60, "hi")),
			zoneOfThese("org", server("org", 60, "ns.org"), addr("ns.org", 60, 4), addr("www.org", 60, 9)),
			zoneOfThese("ex.com", server("ex.com", 60, "ns.ex.com"), server("ex.com", 60, "ns.org"), addr("ns.ex.com", 60, 5), addr("www.ex.com", 60, 7), addr("www.ex.com", 60, 8)),
		},
		Posts: []impl.Post{post(6, ""), post(1, ""), post(2, "com"), post(3, "com"), post(4, "com"), post(4, "ex.com"), post(4, "org"), post(5, "ex.com")},
	}
}

// wideForest is valid: the root and n-1 zones below it, all served at the address 1.
func wideForest(n int) impl.Forest {
	root := zoneOfThese("", server("", 60, "ns"), addr("ns", 60, 1))
	f := impl.Forest{Zones: []impl.Zone{root}, Posts: []impl.Post{post(1, "")}}
	for i := range n - 1 {
		apex := "t" + impl.NumText(i)
		f.Zones[0] = withMore(f.Zones[0], server(apex, 60, "ns"))
		f.Zones = append(f.Zones, zoneOfThese(apex, server(apex, 60, "ns")))
		f.Posts = append(f.Posts, post(1, apex))
	}
	return f
}

// deepForest is valid: a zone for every number of labels, all served at the address 1,
// and those with an even number of labels at the address 2, too.
func deepForest() impl.Forest {
	f := impl.Forest{}
	names := impl.Above("f.e.d.c.b.a")
	for i, apex := range names {
		z := zoneOfThese(apex, server(apex, 60, "ns"))
		if i > 0 {
			z = withMore(z, server(names[i-1], 60, "ns"))
		}
		f.Zones = append(f.Zones, z)
		f.Posts = append(f.Posts, post(1, apex))
		if i%2 == 0 {
			f.Posts = append(f.Posts, post(2, apex))
		}
	}
	f.Zones[6] = withMore(f.Zones[6], addr("ns", 60, 1))
	return f
}

func goodForests() []impl.Forest {
	return []impl.Forest{treeForest(), wideForest(1), wideForest(2), wideForest(impl.MaxZones), deepForest()}
}

func cloneForest(f impl.Forest) impl.Forest {
	zones := slices.Clone(f.Zones)
	for i, z := range zones {
		zones[i].L = slices.Clone(z.L)
	}
	return impl.Forest{Zones: zones, Posts: slices.Clone(f.Posts)}
}

// addRecords puts records into the zone at this index, in the order of LessRecord.
func addRecords(f impl.Forest, at int, l ...impl.Record) impl.Forest {
	out := cloneForest(f)
	out.Zones[at] = withMore(out.Zones[at], l...)
	return out
}

// dropRecords removes records from the zone at this index; all of them must be there.
func dropRecords(t *testing.T, f impl.Forest, at int, l ...impl.Record) impl.Forest {
	t.Helper()
	out := cloneForest(f)
	for _, r := range l {
		i := slices.Index(out.Zones[at].L, r)
		if i < 0 {
			t.Fatalf("there is no %s in %s", brief(r), brief(out.Zones[at]))
		}
		out.Zones[at] = without(out.Zones[at], i)
	}
	return out
}

func addPosts(f impl.Forest, l ...impl.Post) impl.Forest {
	out := cloneForest(f)
	out.Posts = append(out.Posts, l...)
	return out
}

// dropPost removes all posts that are equal to p.
func dropPost(f impl.Forest, p impl.Post) impl.Forest {
	out := cloneForest(f)
	out.Posts = slices.DeleteFunc(out.Posts, func(q impl.Post) bool { return p == q })
	return out
}

func sameForest(a impl.Forest, b impl.Forest) bool {
	same := func(y impl.Zone, z impl.Zone) bool { return y.Apex == z.Apex && slices.Equal(y.L, z.L) }
	return slices.EqualFunc(a.Zones, b.Zones, same) && slices.Equal(a.Posts, b.Posts)
}

func modelZone(f impl.Forest, name string, among func(apex string) bool) int {
	best := -1
	for i, z := range f.Zones {
		if among(z.Apex) && modelUnder(name, z.Apex) && (best < 0 || len(reversed(z.Apex)) > len(reversed(f.Zones[best].Apex))) {
			best = i
		}
	}
	return best
}

func modelZoneOf(f impl.Forest, name string) int {
	return modelZone(f, name, func(string) bool { return true })
}

func modelZoneAt(f impl.Forest, n int, name string) int {
	return modelZone(f, name, func(apex string) bool { return slices.Contains(f.Posts, post(n, apex)) })
}

func modelAddrsOf(f impl.Forest, host string) []int {
	if at := modelZoneOf(f, host); at >= 0 {
		return modelAddrs(f.Zones[at].L, host)
	}
	return nil
}

func modelReplyAt(f impl.Forest, n int, m impl.Msg) impl.Msg {
	if at := modelZoneAt(f, n, m.Q.Name); at >= 0 {
		return modelServed(f.Zones[at], m.Q).reply(m)
	}
	return impl.Msg{Id: m.Id, Reply: true, Want: m.Want, Code: 5, Q: m.Q}
}

func modelRoots(f impl.Forest) []int {
	out := []int{}
	for _, p := range f.Posts {
		if p.Apex == "" && !slices.Contains(out, p.Addr) {
			out = append(out, p.Addr)
		}
	}
	return out
}

// modelPartsOk is the first condition of a valid name space.
func modelPartsOk(f impl.Forest) bool {
	apexes := []string{}
	for _, z := range f.Zones {
		if !modelZoneOk(z) || slices.Contains(apexes, z.Apex) {
			return false
		}
		apexes = append(apexes, z.Apex)
	}
	for _, p := range f.Posts {
		if !slices.Contains(apexes, p.Apex) {
			return false
		}
	}
	return slices.Contains(apexes, "") && len(apexes) <= 8 && len(f.Posts) <= 16
}

func modelForestOk(f impl.Forest) bool {
	if !modelPartsOk(f) {
		return false
	}
	for _, z := range f.Zones {
		servers, told := modelSet(z.L, z.Apex, impl.TyServer), []impl.Record{}
		if z.Apex != "" {
			above := f.Zones[modelZoneOf(f, impl.Up(z.Apex))]
			if !slices.Contains(modelCuts(above), z.Apex) || !modelSameData(modelSet(above.L, z.Apex, impl.TyServer), servers) {
				return false
			}
			told = above.L
		}
		for _, cut := range modelCuts(z) {
			if !slices.ContainsFunc(f.Zones, func(z impl.Zone) bool { return z.Apex == cut }) {
				return false
			}
		}
		for _, host := range modelHosts(servers) {
			own, other := modelAddrsOf(f, host), modelAddrs(told, host)
			if len(own) == 0 || len(other) > 0 && !slices.Equal(slices.Sorted(slices.Values(own)), slices.Sorted(slices.Values(other))) {
				return false
			}
			for _, n := range own {
				if !slices.Contains(f.Posts, post(n, z.Apex)) {
					return false
				}
			}
		}
	}
	return true
}

// wantForest fails if the name space is not as valid as stated, or if it is valid
// and promise 12 does not hold in it.
func wantForest(t *testing.T, why string, f impl.Forest, ok bool) {
	t.Helper()
	if model := modelForestOk(f); model != ok {
		t.Fatalf("%s: the model of %s is %v", why, brief(f), model)
	}
	if impl.ForestOk(f) != ok {
		t.Errorf("%s: ForestOk(%s) = %v", why, brief(f), !ok)
	}
	if ok {
		wantServedEverywhere(t, why, f, forestNames(f))
	}
}

// wantServedEverywhere fails if a name has no zone, or if a server that is posted
// for the zone of a name does not answer from this zone.
func wantServedEverywhere(t *testing.T, why string, f impl.Forest, names []string) {
	t.Helper()
	for _, name := range names {
		at := impl.ZoneOf(f, name)
		if at < 0 || !impl.InZone(f.Zones[at], name) {
			t.Fatalf("%s: the zone of %s is %d", why, brief(name), at)
		}
		m := impl.AskMsg(7, impl.Quest{Name: name, Type: impl.TyAddr})
		answers := 0
		for _, p := range f.Posts {
			if p.Apex != f.Zones[at].Apex {
				continue
			}
			answers++
			reply := impl.ReplyAt(f, p.Addr, m)
			if !reply.Auth || reply.Code != impl.RcGood && reply.Code != impl.RcNoName {
				t.Errorf("%s: the reply for %s at %d is %s", why, brief(name), p.Addr, brief(reply))
			}
			wantMsg(t, why+": the reply for "+brief(name), reply, impl.Serve(f.Zones[at], m))
		}
		if answers == 0 {
			t.Errorf("%s: nobody answers for %s", why, brief(name))
		}
	}
}

// wantForestAsModel fails if a function of the chapter differs from its model.
func wantForestAsModel(t *testing.T, f impl.Forest, names []string) {
	t.Helper()
	if got := impl.ForestOk(f); got != modelForestOk(f) {
		t.Errorf("ForestOk(%s) = %v", brief(f), got)
	}
	wantList(t, "RootsOf", impl.RootsOf(f), modelRoots(f))
	for _, name := range names {
		if got := impl.ZoneOf(f, name); got != modelZoneOf(f, name) {
			t.Errorf("ZoneOf(%s, %s) = %d", brief(f), brief(name), got)
		}
		wantList(t, "AddrsOf "+brief(name), impl.AddrsOf(f, name), modelAddrsOf(f, name))
		for _, n := range forestAddrs(f) {
			if got := impl.ZoneAt(f, n, name); got != modelZoneAt(f, n, name) {
				t.Errorf("ZoneAt(%s, %d, %s) = %d", brief(f), n, brief(name), got)
			}
			m := impl.Msg{Id: 7, Want: true, Q: impl.Quest{Name: name, Type: impl.TyAddr}}
			wantMsg(t, "ReplyAt for "+brief(name), impl.ReplyAt(f, n, m), modelReplyAt(f, n, m))
		}
	}
}

// forestNames are the names in all zones, and names above, below and beside them.
func forestNames(f impl.Forest) []string {
	out := []string{"", "none", "a.b.c"}
	for _, z := range f.Zones {
		out = append(out, zoneNames(z)...)
	}
	return modelFirsts(out)
}

// forestAddrs are the addresses of all posts, and some others.
func forestAddrs(f impl.Forest) []int {
	out := []int{0, 7, -1}
	for _, p := range f.Posts {
		out = append(out, p.Addr)
	}
	return modelFirsts(out)
}

func wantZoneOf(t *testing.T, f impl.Forest, names map[string]int) {
	t.Helper()
	for name, want := range names {
		if got := impl.ZoneOf(f, name); got != want {
			t.Errorf("ZoneOf(%s) = %d, want %d", brief(name), got, want)
		}
	}
}

func wantZoneAt(t *testing.T, f impl.Forest, n int, names map[string]int) {
	t.Helper()
	for name, want := range names {
		if got := impl.ZoneAt(f, n, name); got != want {
			t.Errorf("ZoneAt(%d, %s) = %d, want %d", n, brief(name), got, want)
		}
	}
}

// wantRefused fails if the reply says anything but that there is no such zone.
func wantRefused(t *testing.T, f impl.Forest, n int, name string) {
	t.Helper()
	m := impl.Msg{Id: 5, Want: true, Q: impl.Quest{Name: name, Type: impl.TyText}}
	wantMsg(t, "the reply", impl.ReplyAt(f, n, m), impl.Msg{Id: 5, Reply: true, Want: true, Code: impl.RcRefused, Q: m.Q})
}

func TestLimitsOfForests(t *testing.T) {
	if impl.MaxZones != 8 || impl.MaxPosts != 16 {
		t.Error(impl.MaxZones, impl.MaxPosts)
	}
}

func TestZoneOfEachName(t *testing.T) {
	wantZoneOf(t, treeForest(), map[string]int{
		"": 0, "net": 0, "a.root": 0, "xcom": 0, "comx": 0, "com.net": 0, "ex": 0,
		"com": 1, "ns.com": 1, "al.com": 1, "none.com": 1, "xex.com": 1, "org.com": 1, "com.com": 1, "x.y.z.com": 1, "ex.a.com": 1,
		"org": 2, "ns.org": 2, "com.org": 2, "ex.com.org": 2,
		"ex.com": 3, "www.ex.com": 3, "none.ex.com": 3, "a.b.c.ex.com": 3, "ex.com.ex.com": 3,
	})
	wantZoneOf(t, deepForest(), map[string]int{"": 6, "b": 6, "a": 5, "x.a": 5, "b.a": 4, "c.b.a": 3, "d.c.b.a": 2, "x.d.c.b.a": 2, "e.d.c.b.a": 1, "f.e.d.c.b.a": 0, "x.f.e.d.c.b.a": 0})
	for i, z := range wideForest(impl.MaxZones).Zones {
		wantZoneOf(t, wideForest(impl.MaxZones), map[string]int{z.Apex: i, "x." + z.Apex: i, "x" + z.Apex: 0})
	}
}

func TestAddrsOfHosts(t *testing.T) {
	for host, want := range map[string][]int{
		"a.root": {1}, "ns.com": {2, 3}, "ns.org": {4}, "ns.ex.com": {5}, "www.ex.com": {7, 8}, "www.org": {9},
		"": nil, "com": nil, "ex.com": nil, "al.com": nil, "b.a.com": nil, "none.com": nil, "none": nil, "x.www.org": nil, "NS.com": nil,
	} {
		wantList(t, "AddrsOf "+brief(host), impl.AddrsOf(treeForest(), host), want)
	}
}

// The zone of the host alone counts, and not what the zones above it say; where a
// zone for the cut is missing, the zone above is the zone of the host.
func TestAddrsOfHostsInOtherZones(t *testing.T) {
	f := addRecords(addRecords(treeForest(), 1, addr("www.ex.com", 60, 10), addr("b.ex.com", 60, 11), addr("ns.ex.com", 60, 12)), 0, addr("www.ex.com", 60, 13))
	wantList(t, "AddrsOf", impl.AddrsOf(f, "www.ex.com"), []int{7, 8})
	wantList(t, "AddrsOf", impl.AddrsOf(f, "b.ex.com"), nil)
	wantList(t, "AddrsOf", impl.AddrsOf(f, "ns.ex.com"), []int{5})
	f.Zones = f.Zones[:3]
	wantList(t, "AddrsOf", impl.AddrsOf(f, "www.ex.com"), []int{10})
	wantList(t, "AddrsOf", impl.AddrsOf(f, "b.ex.com"), []int{11})
	wantList(t, "AddrsOf", impl.AddrsOf(f, "ns.ex.com"), []int{5, 12})
	f.Zones = f.Zones[:1]
	wantList(t, "AddrsOf", impl.AddrsOf(f, "www.ex.com"), []int{13})
	wantList(t, "AddrsOf", impl.AddrsOf(f, "b.ex.com"), nil)
}

func TestOrderOfAddrs(t *testing.T) {
	f := impl.Forest{Zones: []impl.Zone{{Apex: "com", L: []impl.Record{addr("a.com", 9, 5), addr("b.com", 60, 1), addr("a.com", 60, 3), text("a.com", 60, "x"), addr("a.com", 60, 5), addr("a.com", 60, -4), addr("a.com", 60, 3)}}}}
	wantList(t, "AddrsOf", impl.AddrsOf(f, "a.com"), []int{5, 3, -4})
}

// The address 4 serves com, ex.com below it, and org beside it, but not the root.
func TestZoneAtEachAddress(t *testing.T) {
	f := treeForest()
	for _, n := range []int{1, 6} {
		wantZoneAt(t, f, n, map[string]int{"": 0, "net": 0, "com": 0, "www.ex.com": 0, "org": 0})
	}
	for _, n := range []int{2, 3} {
		wantZoneAt(t, f, n, map[string]int{"": -1, "net": -1, "com": 1, "al.com": 1, "ex.com": 1, "www.ex.com": 1, "org": -1, "xcom": -1})
	}
	wantZoneAt(t, f, 4, map[string]int{"": -1, "net": -1, "com": 1, "al.com": 1, "xex.com": 1, "ex.com": 3, "www.ex.com": 3, "org": 2, "www.org": 2, "com.org": 2, "a.root": -1})
	wantZoneAt(t, f, 5, map[string]int{"": -1, "com": -1, "al.com": -1, "ex.com": 3, "www.ex.com": 3, "xex.com": -1, "org": -1})
	for _, n := range []int{0, 7, 8, -1, -4, math.MinInt, math.MaxInt} {
		wantZoneAt(t, f, n, map[string]int{"": -1, "com": -1, "www.ex.com": -1, "org": -1})
	}
}

// Of the zones that are served at the address, the lowest one counts, although
// there is a lower one elsewhere, in every order of the zones and of the posts.
func TestZoneAtAddressWithSeveralZones(t *testing.T) {
	wantZoneAt(t, deepForest(), 1, map[string]int{"": 6, "a": 5, "x.a": 5, "b.a": 4, "c.b.a": 3, "d.c.b.a": 2, "e.d.c.b.a": 1, "f.e.d.c.b.a": 0, "x.f.e.d.c.b.a": 0})
	wantZoneAt(t, deepForest(), 2, map[string]int{"": 6, "a": 6, "x.a": 6, "b.a": 4, "c.b.a": 4, "d.c.b.a": 2, "e.d.c.b.a": 2, "x.d.c.b.a": 2, "f.e.d.c.b.a": 0})
	zones := []impl.Zone{zoneOfThese(""), zoneOfThese("com"), zoneOfThese("ex.com"), zoneOfThese("org")}
	permutations([]impl.Record{{N: 0}, {N: 1}, {N: 2}, {N: 3}}, func(order []impl.Record) {
		f := impl.Forest{}
		for _, r := range order {
			f.Zones = append(f.Zones, zones[r.N])
			f.Posts = append([]impl.Post{post(r.N/2, zones[r.N].Apex)}, f.Posts...)
		}
		wantForestAsModel(t, f, []string{"", "net", "com", "ex.com", "www.ex.com", "org", "a.org"})
		both := addPosts(f, post(3, "com"), post(3, "org"), post(3, "com"), post(4, "ex.com"), post(4, ""))
		wantForestAsModel(t, both, []string{"", "net", "com", "ex.com", "www.ex.com", "org", "a.org"})
	})
}

func TestReplyAtEachAddress(t *testing.T) {
	for _, c := range []struct {
		n    int
		name string
		want string
	}{
		{1, "www.ex.com", "reply 7 0 www.ex.com addr; com 60 server ns.com; com 60 server ns.org; ns.com 60 addr 2; ns.com 60 addr 3; ns.org 60 addr 4"},
		{6, "www.net", "reply 7 3 www.net addr auth; . 60 start ns.com 30"},
		{6, "root", "reply 7 0 root addr auth; . 60 start ns.com 30"},
		{2, "www.ex.com", "reply 7 0 www.ex.com addr; ex.com 60 server ns.ex.com; ex.com 60 server ns.org; ns.ex.com 60 addr 5"},
		{3, "al.com", "reply 7 0 al.com addr auth; al.com 60 alias www.ex.com"},
		{3, "ns.org", "reply 7 5 ns.org addr"},
		{4, "al.com", "reply 7 0 al.com addr auth; al.com 60 alias www.ex.com"},
		{4, "www.ex.com", "reply 7 0 www.ex.com addr auth; www.ex.com 60 addr 7; www.ex.com 60 addr 8"},
		{4, "www.org", "reply 7 0 www.org addr auth; www.org 60 addr 9"},
		{4, "none.com", "reply 7 3 none.com addr auth; com 60 start ns.com 30"},
		{4, "net", "reply 7 5 net addr"},
		{5, "none.ex.com", "reply 7 3 none.ex.com addr auth; ex.com 60 start ns.com 30"},
		{5, "al.com", "reply 7 5 al.com addr"},
		{0, "com", "reply 7 5 com addr"},
	} {
		reply := impl.ReplyAt(treeForest(), c.n, impl.AskMsg(7, impl.Quest{Name: c.name, Type: impl.TyAddr}))
		if got := impl.MsgText(reply); got != c.want {
			t.Errorf("at %d\n%s, want\n%s", c.n, got, c.want)
		}
	}
}

func TestAddressWithoutZones(t *testing.T) {
	for _, n := range []int{0, 7, -1, math.MinInt, math.MaxInt} {
		for _, name := range append(forestNames(treeForest()), someBadNames()...) {
			wantZoneAt(t, treeForest(), n, map[string]int{name: -1})
			wantRefused(t, treeForest(), n, name)
		}
	}
	// A post for a zone that does not exist serves nothing, also not a zone above it.
	f := addPosts(treeForest(), post(20, "net"), post(20, "b.ex.com"), post(20, "COM"), post(20, "com."), post(20, "xcom"))
	for _, name := range []string{"net", "x.net", "b.ex.com", "x.b.ex.com", "COM", "com.", "com", "", "xcom"} {
		wantZoneAt(t, f, 20, map[string]int{name: -1})
		wantRefused(t, f, 20, name)
	}
	wantForest(t, "posts for no zone", f, false)
}

func TestNameWithoutZone(t *testing.T) {
	f := treeForest()
	f.Zones = f.Zones[1:]
	wantZoneOf(t, f, map[string]int{"": -1, "net": -1, "a.root": -1, "xcom": -1, "com.net": -1, "COM": -1, "com": 0, "www.org": 1, "www.ex.com": 2})
	for _, name := range []string{"", "net", "a.root", "xcom"} {
		wantList(t, "AddrsOf", impl.AddrsOf(f, name), nil)
		for n := range 10 {
			wantZoneAt(t, f, n, map[string]int{name: -1})
			wantRefused(t, f, n, name)
		}
	}
	wantForest(t, "no root", f, false)
}

// Where several zones have the same Apex, the first of them counts, also where a
// post is for each of them.
func TestZonesWithTheSameApex(t *testing.T) {
	first, second := zoneOfThese("com", addr("a.com", 60, 1)), zoneOfThese("com", addr("a.com", 60, 2), addr("b.com", 60, 3))
	low, again := zoneOfThese("ex.com", addr("a.ex.com", 60, 4)), zoneOfThese("ex.com", addr("a.ex.com", 60, 5))
	f := impl.Forest{Zones: []impl.Zone{first, low, second, again, first}, Posts: []impl.Post{post(1, "com"), post(1, "com"), post(2, "ex.com"), post(2, "com")}}
	for range 20 {
		wantZoneOf(t, f, map[string]int{"com": 0, "a.com": 0, "b.com": 0, "ex.com": 1, "a.ex.com": 1, "": -1})
		wantZoneAt(t, f, 1, map[string]int{"com": 0, "a.com": 0, "a.ex.com": 0, "": -1})
		wantZoneAt(t, f, 2, map[string]int{"com": 0, "a.com": 0, "a.ex.com": 1, "": -1})
		wantList(t, "AddrsOf", impl.AddrsOf(f, "a.com"), []int{1})
		wantList(t, "AddrsOf", impl.AddrsOf(f, "b.com"), nil)
		wantList(t, "AddrsOf", impl.AddrsOf(f, "a.ex.com"), []int{4})
		wantForestAsModel(t, f, forestNames(f))
	}
	f.Zones = f.Zones[2:]
	wantZoneOf(t, f, map[string]int{"com": 0, "a.ex.com": 1})
	wantList(t, "AddrsOf", impl.AddrsOf(f, "b.com"), []int{3})
	for i, z := range treeForest().Zones {
		twice := cloneForest(treeForest())
		twice.Zones = append(twice.Zones, z)
		wantForest(t, "a zone twice", twice, false)
		wantZoneOf(t, twice, map[string]int{z.Apex: i})
	}
}

func TestPostsThatAreRepeated(t *testing.T) {
	f := addPosts(treeForest(), treeForest().Posts...)
	wantForest(t, "all posts twice", f, true)
	for _, name := range forestNames(f) {
		for _, n := range forestAddrs(f) {
			wantZoneAt(t, f, n, map[string]int{name: impl.ZoneAt(treeForest(), n, name)})
		}
	}
	same := impl.Forest{Zones: treeForest().Zones, Posts: slices.Repeat([]impl.Post{post(1, "")}, 3)}
	wantZoneAt(t, same, 1, map[string]int{"": 0, "www.ex.com": 0})
	wantList(t, "RootsOf", impl.RootsOf(same), []int{1})
}

func TestRoots(t *testing.T) {
	wantList(t, "RootsOf", impl.RootsOf(treeForest()), []int{6, 1})
	for _, c := range []struct {
		posts []impl.Post
		want  []int
	}{
		{nil, nil},
		{[]impl.Post{post(2, "com"), post(3, "org"), post(4, "."), post(5, "x")}, nil},
		{[]impl.Post{post(7, "")}, []int{7}},
		{[]impl.Post{post(9, ""), post(2, "com"), post(3, ""), post(9, ""), post(2, ""), post(3, ""), post(1, "org"), post(9, "")}, []int{9, 3, 2}},
		{[]impl.Post{post(0, ""), post(-1, ""), post(math.MinInt, ""), post(0, "")}, []int{0, -1, math.MinInt}},
	} {
		f := treeForest()
		f.Posts = c.posts
		wantList(t, "RootsOf", impl.RootsOf(f), c.want)
	}
}

func TestGoodForests(t *testing.T) {
	for _, f := range goodForests() {
		wantForest(t, "valid", f, true)
		wantServedEverywhere(t, "valid", f, append(goodNames(), badNames()...))
		wantForestAsModel(t, f, forestNames(f))
		for _, name := range goodNames() {
			for _, ty := range recordTypes() {
				for _, n := range forestAddrs(f) {
					m := impl.AskMsg(3, impl.Quest{Name: name, Type: ty})
					wantMsg(t, "ReplyAt", impl.ReplyAt(f, n, m), modelReplyAt(f, n, m))
				}
			}
		}
	}
}

// The zones and the posts may stand in any order.
func TestOrderOfForest(t *testing.T) {
	permutations([]impl.Record{{N: 0}, {N: 1}, {N: 2}, {N: 3}}, func(order []impl.Record) {
		f := treeForest()
		for i, r := range order {
			f.Zones[i] = treeForest().Zones[r.N]
		}
		for range order[0].N + 1 {
			f.Posts = append(f.Posts[3:], f.Posts[:3]...)
		}
		wantForest(t, "another order", f, true)
		for _, name := range forestNames(f) {
			if a, b := f.Zones[impl.ZoneOf(f, name)].Apex, treeForest().Zones[impl.ZoneOf(treeForest(), name)].Apex; a != b {
				t.Errorf("the zone of %s is %s, want %s", brief(name), brief(a), brief(b))
			}
		}
	})
}

func TestNumberOfZones(t *testing.T) {
	wantForest(t, "nothing", impl.Forest{}, false)
	wantForest(t, "no zone", impl.Forest{Posts: []impl.Post{post(1, "")}}, false)
	for n := 1; n < 16; n++ {
		wantForest(t, "many zones", wideForest(n), n <= impl.MaxZones)
	}
	large := treeForest()
	for len(large.Zones) < 2000 {
		large.Zones = append(large.Zones, smallest("x"+impl.NumText(len(large.Zones))))
	}
	wantForest(t, "two thousand zones", large, false)
	wantZoneOf(t, large, map[string]int{"a.x1999": 1999, "x4": 4, "x3": 0, "www.ex.com": 3})
}

func TestNumberOfPosts(t *testing.T) {
	for _, f := range goodForests()[:4] {
		for len(f.Posts) < 20 {
			wantForest(t, "many posts", f, len(f.Posts) <= impl.MaxPosts)
			f = addPosts(f, post(len(f.Posts)*100, f.Zones[len(f.Posts)%len(f.Zones)].Apex))
		}
		wantForest(t, "many posts", addPosts(f, slices.Repeat(f.Posts, 100)...), false)
	}
	repeated := addPosts(treeForest(), slices.Repeat([]impl.Post{post(1, "")}, 8)...)
	wantForest(t, "a post nine times", repeated, true)
	wantForest(t, "a post ten times", addPosts(repeated, post(1, "")), false)
}

func TestForestWithInvalidZone(t *testing.T) {
	for _, f := range goodForests() {
		for i := range f.Zones {
			wantForest(t, "an invalid record", addRecords(f, i, impl.Record{}), false)
			wantForest(t, "a second start", addRecords(f, i, start(f.Zones[i].Apex, 60, 31)), false)
			other := cloneForest(f)
			slices.Reverse(other.Zones[i].L)
			wantForest(t, "another order of the records", other, false)
			other.Zones[i].L = nil
			wantForest(t, "a zone without records", other, false)
			other.Zones[i] = smallest("A")
			wantForest(t, "an invalid Apex", other, false)
		}
		more := cloneForest(f)
		more.Zones = append(more.Zones[:min(7, len(f.Zones))], impl.Zone{Apex: "x.none", L: smallest("none").L})
		wantForest(t, "one more zone, invalid", more, false)
	}
}

func TestForestWithoutRoot(t *testing.T) {
	wantForest(t, "com alone", impl.Forest{Zones: []impl.Zone{withMore(smallest("com"), addr("ns.com", 60, 1))}, Posts: []impl.Post{post(1, "com")}}, false)
	for _, f := range goodForests() {
		at := slices.IndexFunc(f.Zones, func(z impl.Zone) bool { return z.Apex == "" })
		f.Zones = slices.Delete(f.Zones, at, at+1)
		wantForest(t, "no root", f, false)
		wantForest(t, "no root and no posts for it", dropPost(dropPost(f, post(1, "")), post(6, "")), false)
	}
}

func TestPostForNoZone(t *testing.T) {
	for _, apex := range []string{"net", "x.com", "www.ex.com", "xcom", "COM", ".", "com.", "root", "ns.org"} {
		for _, n := range []int{1, 4, 9, 0, -1} {
			wantForest(t, "a post for no zone", addPosts(treeForest(), post(n, apex)), false)
		}
	}
	for _, z := range treeForest().Zones {
		for _, n := range []int{0, -1, impl.MaxFour + 1, math.MinInt, math.MaxInt} {
			wantForest(t, "a post at any address", addPosts(treeForest(), post(n, z.Apex)), true)
		}
	}
}

func TestApexThatIsNoCut(t *testing.T) {
	noCut := dropRecords(t, treeForest(), 1, server("ex.com", 60, "ns.ex.com"), server("ex.com", 60, "ns.org"))
	wantForest(t, "ex.com is no cut", noCut, false)
	f := treeForest()
	f.Zones = append(f.Zones, zoneOfThese("net", server("net", 60, "ns.org")))
	f.Posts = append(f.Posts, post(4, "net"))
	wantForest(t, "net is no cut", f, false)
	wantForest(t, "net is a cut", addRecords(f, 0, server("net", 60, "ns.org")), true)
	// x.net is a cut of the root, but the zone above x.net is net.
	f = addRecords(f, 0, server("net", 60, "ns.org"))
	f.Zones = append(f.Zones, zoneOfThese("x.net", server("x.net", 60, "ns.org")))
	f.Posts = append(f.Posts, post(4, "x.net"))
	wantForest(t, "x.net is no cut", f, false)
	wantForest(t, "x.net is a cut of the root", addRecords(f, 0, server("x.net", 60, "ns.org")), false)
	wantForest(t, "x.net is a cut of net", addRecords(f, 4, server("x.net", 60, "ns.org")), true)
}

// A cut may be several labels below its zone: there is no zone in between.
func TestCutFarBelow(t *testing.T) {
	f := impl.Forest{Zones: slices.Clone(treeForest().Zones), Posts: addPosts(treeForest(), post(4, "c.b.a.com")).Posts}
	f.Zones = append(f.Zones, zoneOfThese("c.b.a.com", server("c.b.a.com", 60, "ns.org")))
	wantForest(t, "no cut", f, false)
	wantForest(t, "a cut of the root", addRecords(f, 0, server("c.b.a.com", 60, "ns.org")), false)
	wantForest(t, "a cut of another name", addRecords(f, 1, server("c.a.com", 60, "ns.org")), false)
	f = dropRecords(t, addRecords(f, 1, server("c.b.a.com", 60, "ns.org")), 1, text("b.a.com", 60, "hi"))
	wantForest(t, "a cut", f, true)
	wantZoneOf(t, f, map[string]int{"com": 1, "a.com": 1, "b.a.com": 1, "c.b.a.com": 4, "d.c.b.a.com": 4, "c.a.com": 1})
}

func TestCutThatIsNoApex(t *testing.T) {
	for i, apex := range []string{"", ".com", ".org", ".ex.com"} {
		wantForest(t, "a cut without a zone", addRecords(treeForest(), i, server("net"+apex, 60, "ns.org")), false)
		wantForest(t, "a deep cut without a zone", addRecords(treeForest(), i, server("a.net"+apex, 60, "ns.org")), false)
	}
	f := treeForest()
	f.Zones, f.Posts = f.Zones[:3], dropPost(dropPost(f, post(4, "ex.com")), post(5, "ex.com")).Posts
	wantForest(t, "no zone for ex.com", f, false)
	wantForest(t, "no zone and no cut", dropRecords(t, f, 1, server("ex.com", 60, "ns.ex.com"), server("ex.com", 60, "ns.org")), true)
}

// The servers of a zone and those of its cut are the same, apart from their Ttl.
func TestServersOfBothZones(t *testing.T) {
	more := addPosts(treeForest(), post(1, "com"), post(1, "org"), post(1, "ex.com"))
	extra := server("com", 60, "a.root")
	wantForest(t, "more posts", more, true)
	wantForest(t, "a server of the cut alone", addRecords(more, 0, extra), false)
	wantForest(t, "a server of the zone alone", addRecords(more, 1, extra), false)
	wantForest(t, "a server of both", addRecords(addRecords(more, 0, extra), 1, extra), true)
	low := server("ex.com", 60, "a.root")
	wantForest(t, "a server of the cut alone", addRecords(more, 1, low), false)
	wantForest(t, "a server of the zone alone", addRecords(more, 3, low), false)
	wantForest(t, "a server of both", addRecords(addRecords(more, 1, low), 3, low), true)
	swapped := addRecords(dropRecords(t, more, 0, server("org", 60, "ns.org")), 0, server("org", 60, "a.root"))
	wantForest(t, "another server of the cut", swapped, false)
	wantForest(t, "another server of both", addRecords(dropRecords(t, swapped, 2, server("org", 60, "ns.org")), 2, server("org", 60, "a.root")), true)
	wantForest(t, "one server less of the cut", dropRecords(t, more, 1, server("ex.com", 60, "ns.ex.com")), false)
	wantForest(t, "one server less of the zone", dropRecords(t, more, 3, server("ex.com", 60, "ns.ex.com")), false)
}

// The order of the servers is that of LessRecord in all valid zones, so another
// order makes the zone invalid.
func TestTtlAndOrderOfServers(t *testing.T) {
	for at, apex := range map[int]string{0: "com", 1: "com", 3: "ex.com"} {
		f := treeForest()
		for i, r := range f.Zones[at].L {
			if r.Name == apex && r.Type == impl.TyServer {
				f.Zones[at].L[i].Ttl = 17
			}
		}
		wantForest(t, "another Ttl", f, true)
		i := slices.IndexFunc(f.Zones[at].L, func(r impl.Record) bool { return r.Name == apex && r.Type == impl.TyServer })
		l := f.Zones[at].L
		l[i], l[i+1] = l[i+1], l[i]
		wantForest(t, "another order", f, false)
	}
	for at := range treeForest().Zones {
		f := treeForest()
		for i := range f.Zones[at].L {
			f.Zones[at].L[i].Ttl = 1000
		}
		wantForest(t, "another Ttl of a whole zone", f, true)
	}
}

func TestHostWithoutAddress(t *testing.T) {
	wantForest(t, "no address of a.root", dropRecords(t, treeForest(), 0, addr("a.root", 60, 1)), false)
	wantForest(t, "no address of ns.ex.com", dropRecords(t, treeForest(), 3, addr("ns.ex.com", 60, 5)), false)
	wantForest(t, "no address of ns.org", dropRecords(t, treeForest(), 2, addr("ns.org", 60, 4)), false)
	wantForest(t, "no address of ns.org, nor in the root", dropRecords(t, dropRecords(t, treeForest(), 2, addr("ns.org", 60, 4)), 0, addr("ns.org", 60, 4)), false)
	wantForest(t, "no address of ns.com, nor in the root", dropRecords(t, dropRecords(t, treeForest(), 1, addr("ns.com", 60, 2), addr("ns.com", 60, 3)), 0, addr("ns.com", 60, 2), addr("ns.com", 60, 3)), false)
	for _, host := range []string{"none", "none.com", "al.com", "com", "", "b.a.com", "none.ex.com"} {
		wantForest(t, "a host without address", addRecords(addRecords(treeForest(), 0, server("org", 60, host)), 2, server("org", 60, host)), false)
		wantForest(t, "a host of the root without address", addRecords(treeForest(), 0, server("", 60, host)), false)
	}
	f := addPosts(treeForest(), post(7, "org"), post(8, "org"), post(9, "org"))
	for _, host := range []string{"www.ex.com", "www.org", "ns.org"} {
		both := []impl.Record{}
		if host != "ns.org" {
			both = append(both, server("org", 60, host))
		}
		wantForest(t, "a host with addresses", addRecords(addRecords(f, 0, both...), 2, both...), true)
	}
}

// A zone must be served at every address of every server of it.
func TestZoneNotServedAtAnAddress(t *testing.T) {
	needed := treeForest().Posts[1:]
	for _, p := range needed {
		wantForest(t, "a post is missing", dropPost(treeForest(), p), false)
		for _, z := range treeForest().Zones {
			if z.Apex != p.Apex {
				wantForest(t, "a post for another zone instead", addPosts(dropPost(treeForest(), p), post(p.Addr, z.Apex)), false)
			}
		}
		wantForest(t, "a post at another address instead", addPosts(dropPost(treeForest(), p), post(20, p.Apex)), false)
	}
	wantForest(t, "a post more than needed", dropPost(treeForest(), post(6, "")), true)
	other := addRecords(treeForest(), 0, addr("a.root", 60, 20))
	wantForest(t, "one more address of a server of the root", other, false)
	wantForest(t, "one more address with a post", addPosts(other, post(20, "")), true)
	for at := range treeForest().Zones {
		f := treeForest()
		f.Posts = slices.DeleteFunc(f.Posts, func(p impl.Post) bool { return p.Apex == f.Zones[at].Apex })
		wantForest(t, "a zone without posts", f, false)
	}
}

// What the zone with the cut says of a server is complete, or it says nothing.
func TestAddressesInZoneWithCut(t *testing.T) {
	f := addPosts(treeForest(), post(20, "com"), post(20, "org"), post(20, "ex.com"))
	two, three := addr("ns.com", 60, 2), addr("ns.com", 60, 3)
	wantForest(t, "one address less in the root", dropRecords(t, f, 0, two), false)
	wantForest(t, "one address less in the root", dropRecords(t, f, 0, three), false)
	wantForest(t, "no addresses in the root", dropRecords(t, f, 0, two, three), true)
	wantForest(t, "one address more in the root", addRecords(f, 0, addr("ns.com", 60, 20)), false)
	wantForest(t, "one address less in com", dropRecords(t, f, 1, three), false)
	wantForest(t, "one address more in com", addRecords(f, 1, addr("ns.com", 60, 20)), false)
	wantForest(t, "one address more in both", addRecords(addRecords(f, 0, addr("ns.com", 60, 20)), 1, addr("ns.com", 60, 20)), true)
	wantForest(t, "another address in the root", addRecords(dropRecords(t, f, 0, three), 0, addr("ns.com", 60, 20)), false)
	wantForest(t, "another order in the root", reordered(f, 0, "ns.com"), false)
	wantForest(t, "another order in com", reordered(f, 1, "ns.com"), false)
	wantForest(t, "another address in com, below it", addRecords(dropRecords(t, f, 1, addr("ns.ex.com", 60, 5)), 1, addr("ns.ex.com", 60, 20)), false)
	wantForest(t, "no address in com, below it", dropRecords(t, f, 1, addr("ns.ex.com", 60, 5)), true)
	// The addresses of ns.org are in a zone that is neither com nor the one above it.
	wantForest(t, "one address more of ns.org", addRecords(f, 0, addr("ns.org", 60, 20)), false)
	wantForest(t, "no address of ns.org", dropRecords(t, f, 0, addr("ns.org", 60, 4)), true)
	wantForest(t, "another Ttl in com", addRecords(dropRecords(t, f, 1, addr("ns.ex.com", 60, 5)), 1, addr("ns.ex.com", 9, 5)), true)
}

// reordered has the records of the host in the opposite order in one zone.
func reordered(f impl.Forest, at int, host string) impl.Forest {
	out := cloneForest(f)
	l := out.Zones[at].L
	from := slices.IndexFunc(l, func(r impl.Record) bool { return r.Name == host })
	slices.Reverse(l[from : from+len(modelSet(l, host, impl.TyAddr))])
	return out
}

// Nothing is asked of addresses in zones above for hosts that are not servers of
// the cut, nor in zones further above.
func TestAddressesOfOtherHosts(t *testing.T) {
	wantForest(t, "an address of no server", addRecords(treeForest(), 0, addr("www.com", 60, 20), addr("www.ex.com", 60, 21), addr("none.org", 60, 22)), true)
	wantForest(t, "an address of no server", addRecords(treeForest(), 1, addr("www.ex.com", 60, 20), addr("ex.com", 60, 21)), true)
	wantForest(t, "an address in the root of a server of ex.com", addRecords(treeForest(), 0, addr("ns.ex.com", 60, 20)), true)
	wantForest(t, "an address beside that of ex.com", addRecords(treeForest(), 3, addr("ns.com.ex.com", 60, 20)), true)
}

// There is no zone with a cut for the root: the addresses of its servers that it
// has itself are not compared with those of the zone of the server.
func TestServersOfTheRoot(t *testing.T) {
	f := impl.Forest{
		Zones: []impl.Zone{
			zoneOfThese("", server("", 60, "ns.com"), addr("ns.com", 60, 2), server("com", 60, "b.com"), addr("b.com", 60, 4)),
			zoneOfThese("com", server("com", 60, "b.com"), addr("b.com", 60, 4), addr("ns.com", 60, 2), addr("ns.com", 60, 3)),
		},
		Posts: []impl.Post{post(2, ""), post(3, ""), post(4, "com")},
	}
	wantForest(t, "fewer addresses of a server of the root", f, true)
	wantForest(t, "other addresses of a server of the root", addRecords(dropRecords(t, f, 0, addr("ns.com", 60, 2)), 0, addr("ns.com", 60, 9)), true)
	wantForest(t, "not served at an address in com", dropPost(f, post(3, "")), false)
	both := server("com", 60, "ns.com")
	f = addPosts(addRecords(addRecords(f, 0, both), 1, both), post(2, "com"), post(3, "com"))
	wantForest(t, "fewer addresses of a server of com", f, false)
	wantForest(t, "all addresses of a server of com", addRecords(f, 0, addr("ns.com", 60, 3)), true)
}

func forestRecords() []impl.Record {
	out := []impl.Record{text("ex.com", 60, "a"), text("www.com", 60, "a"), {}}
	for _, name := range []string{"", "com", "org", "ex.com", "net"} {
		out = append(out, server(name, 60, "ns.org"), server(name, 60, "ns.com"), server(name, 60, "a.root"))
	}
	for _, host := range []string{"ns.org", "ns.com", "ns.ex.com", "a.root", "www.ex.com"} {
		out = append(out, addr(host, 60, 2), addr(host, 60, 4), addr(host, 60, 5), alias(host, 60, "a"))
	}
	return out
}

// oneChange has every record and every post of treeForest left out, and one of many
// added.
func oneChange() []impl.Forest {
	out := []impl.Forest{}
	for at, z := range treeForest().Zones {
		for i := range z.L {
			f := treeForest()
			f.Zones[at] = without(f.Zones[at], i)
			out = append(out, f)
		}
		for _, r := range forestRecords() {
			out = append(out, addRecords(treeForest(), at, r))
		}
		for n := range 8 {
			out = append(out, addPosts(treeForest(), post(n, z.Apex)))
		}
		for _, apex := range []string{"", "com", "org", "ex.com", "net", "A"} {
			f := treeForest()
			f.Zones[at].Apex = apex
			out = append(out, f)
		}
	}
	for _, p := range treeForest().Posts {
		out = append(out, dropPost(treeForest(), p))
	}
	return out
}

func TestForestsWithOneChange(t *testing.T) {
	valid := 0
	names := forestNames(treeForest())
	for i, f := range oneChange() {
		ok := modelForestOk(f)
		if ok {
			valid++
		}
		wantForest(t, "one change", f, ok)
		wantForestAsModel(t, f, names[i%7:i%7+12])
	}
	if valid < 50 {
		t.Errorf("%d name spaces are valid", valid)
	}
}

// changedBy makes one change that is drawn, of the records or of the posts.
func changedBy(next func(n int) int, f impl.Forest) impl.Forest {
	at := next(len(f.Zones))
	z := f.Zones[at]
	switch next(5) {
	case 0:
		if len(z.L) > 0 {
			f.Zones[at] = without(z, next(len(z.L)))
		}
		return f
	case 1:
		return dropPost(f, post(next(6), z.Apex))
	case 2:
		l := forestRecords()
		r := l[next(len(l))]
		if r.Type == impl.TyServer {
			f = addRecords(f, next(len(f.Zones)), r)
		}
		return addRecords(f, at, r)
	}
	return addPosts(f, post(next(6), z.Apex))
}

func TestDrawnForests(t *testing.T) {
	next := draws(12)
	names := forestNames(treeForest())
	valid, several := 0, 0
	for range 3000 {
		f := treeForest()
		changes := next(7)
		for range changes {
			f = changedBy(next, f)
		}
		if modelForestOk(f) {
			valid++
			if changes > 1 {
				several++
			}
		}
		from := next(len(names) - 5)
		wantForestAsModel(t, f, names[from:from+5])
	}
	if valid < 300 || several < 100 {
		t.Errorf("%d name spaces are valid, %d of them with several changes", valid, several)
	}
}

// Any zones and posts of few names, most of them invalid.
func TestDrawnZonesAndPosts(t *testing.T) {
	next := draws(1212)
	names := []string{"", "com", "ex.com", "www.ex.com", "xex.com", "org", "ex.org", "A", "com.", "."}
	served, refused := 0, 0
	for range 2000 {
		f := impl.Forest{}
		for range next(7) {
			f.Zones = append(f.Zones, impl.Zone{Apex: names[next(1+next(len(names)))], L: manyRecords(uint32(next(500)), next(12))})
		}
		for range next(9) {
			f.Posts = append(f.Posts, post(next(4)-1, names[next(1+next(len(names)))]))
		}
		for n := -1; n < 3; n++ {
			if impl.ZoneAt(f, n, "www.ex.com") >= 0 {
				served++
			} else {
				refused++
			}
		}
		wantForestAsModel(t, f, names)
	}
	if served < 1000 || refused < 1000 {
		t.Errorf("%d served, %d refused", served, refused)
	}
}

func TestForestsOfBadZones(t *testing.T) {
	bad := append(badZones()[:150], impl.Zone{}, impl.Zone{Apex: "A", L: invalidMixture()}, impl.Zone{Apex: ".", L: mixture()})
	for i, z := range bad {
		f := impl.Forest{Zones: []impl.Zone{z, bad[(i+7)%len(bad)], bad[(i*5)%len(bad)]}, Posts: []impl.Post{post(-1, z.Apex), post(math.MinInt, ""), post(0, "com")}}
		wantForestAsModel(t, f, []string{"", "com", "a.com", "b.a.com", "www.ex.com", z.Apex, "x." + z.Apex})
	}
	for _, name := range badNames() {
		zones := []impl.Zone{{Apex: "com", L: oneOfEach("com")}, {Apex: name, L: []impl.Record{addr(name, -1, -2), addr("x."+name, 0, 3)}}, {Apex: "x", L: nil}}
		f := impl.Forest{Zones: zones, Posts: []impl.Post{post(1, name), post(1, "com"), post(2, "com"), post(-3, name), post(2, "x."+name)}}
		wantForestAsModel(t, f, []string{name, "x." + name, "x" + name, name + ".", impl.Up(name), "com", "x.com", ""})
	}
}

// Of the query, Id, question and Want are in the reply, and nothing else, also
// if it is invalid or a reply itself.
func TestReplyAtOfAllMessages(t *testing.T) {
	messages := append(flagged(full()), badMsgs()[:40]...)
	for _, m := range goodMsgs()[:60] {
		messages = append(messages, m, with(m, 1, records(9)))
	}
	for _, id := range append(outOfRange(impl.MaxTwo), 0, 1, impl.MaxTwo) {
		messages = append(messages, impl.Msg{Id: id}, impl.Msg{Id: id, Want: true, Reply: true, Code: 16, Ad: badRecords()[:20]})
	}
	for _, m := range messages {
		for _, q := range []impl.Quest{m.Q, {Name: "www.ex.com", Type: impl.TyAddr}, {Name: "al.com", Type: -1}, {Name: "A..", Type: 3}, {}} {
			m.Q = q
			for _, n := range []int{0, 1, 2, 4, 5} {
				wantMsg(t, "ReplyAt", impl.ReplyAt(treeForest(), n, m), modelReplyAt(treeForest(), n, m))
			}
		}
	}
}

func TestForestWithoutZonesOrPosts(t *testing.T) {
	for _, zones := range [][]impl.Zone{nil, {}, treeForest().Zones[:0], treeForest().Zones[2:2]} {
		for _, posts := range [][]impl.Post{nil, {}, treeForest().Posts[:0], treeForest().Posts} {
			f := impl.Forest{Zones: zones, Posts: posts}
			wantForest(t, "no zones", f, false)
			wantForestAsModel(t, f, append(forestNames(treeForest()), someBadNames()...))
			whole := impl.Forest{Zones: treeForest().Zones, Posts: posts}
			wantForest(t, "all zones", whole, len(posts) > 0)
			wantForestAsModel(t, whole, forestNames(treeForest()))
		}
	}
}

// checkFreshAddrs fails if a list of addresses of this name space shares memory
// with another one.
func checkFreshAddrs(t *testing.T, name string, f impl.Forest, get func(f impl.Forest) []int) {
	t.Helper()
	before := cloneForest(f)
	out, other := get(f), get(f)
	want := slices.Clone(other)
	wantList(t, name, out, want)
	out = out[:cap(out)]
	for i := range out {
		out[i] = -9
	}
	wantList(t, "another result of "+name, other, want)
	wantList(t, "a later result of "+name, get(f), want)
	if !sameForest(f, before) {
		t.Errorf("%s changed its argument", name)
	}
	for i := range f.Posts {
		f.Posts[i] = post(-8, "x")
	}
	for _, z := range f.Zones {
		fillRecords(z.L, "x")
	}
	wantList(t, name+" after a change of the argument", other, want)
}

func TestForestSharesNoMemory(t *testing.T) {
	for _, build := range []func() impl.Forest{treeForest, deepForest, func() impl.Forest { return impl.Forest{} }} {
		checkFreshAddrs(t, "RootsOf", build(), impl.RootsOf)
		for _, host := range forestNames(build()) {
			checkFreshAddrs(t, "AddrsOf", build(), func(f impl.Forest) []int { return impl.AddrsOf(f, host) })
		}
	}
	for kind := range servedKinds {
		for _, n := range []int{1, 2} {
			z, l := manyInAll()
			m := full()
			m.Q = l[kind]
			checkServeSharing(t, z, m, func(z impl.Zone, m impl.Msg) impl.Msg {
				return impl.ReplyAt(impl.Forest{Zones: []impl.Zone{z}, Posts: []impl.Post{post(1, "com")}}, n, m)
			})
		}
	}
}

// Zones, records and posts beyond the length do not count, and nothing is changed.
func TestForestIsNotChanged(t *testing.T) {
	names := forestNames(treeForest())
	for zones := range len(treeForest().Zones) + 1 {
		for posts := range len(treeForest().Posts) + 1 {
			whole := treeForest()
			f := impl.Forest{Zones: whole.Zones[:zones], Posts: whole.Posts[:posts]}
			wantForestAsModel(t, f, names[posts:posts+20])
			if !sameForest(whole, treeForest()) {
				t.Errorf("%d zones and %d posts were changed", zones, posts)
			}
		}
	}
	for length := range len(treeForest().Zones[1].L) {
		whole := treeForest()
		f := impl.Forest{Zones: slices.Clone(whole.Zones), Posts: whole.Posts}
		f.Zones[1].L = f.Zones[1].L[:length]
		wantForestAsModel(t, f, names)
		if !sameForest(whole, treeForest()) {
			t.Errorf("%d records were changed", length)
		}
	}
}

// The order in which the program sees its maps is another one in every call.
func TestForestAfterManyCalls(t *testing.T) {
	f, other := deepForest(), oneChange()
	for i := range 300 {
		impl.ForestOk(other[i%len(other)])
		impl.ReplyAt(other[i%len(other)], i%8, impl.AskMsg(i, impl.Quest{Name: "www.ex.com", Type: impl.TyAddr}))
		wantZoneOf(t, f, map[string]int{"": 6, "x.a": 5, "c.b.a": 3, "x.d.c.b.a": 2, "f.e.d.c.b.a": 0})
		wantZoneAt(t, f, 2, map[string]int{"": 6, "x.a": 6, "c.b.a": 4, "x.d.c.b.a": 2, "f.e.d.c.b.a": 0})
	}
}
