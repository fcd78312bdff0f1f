package tests

import (
	"cmp"
	"math"
	"slices"
	"strings"
	"testing"

	"loop.example/g00497/impl"
)

func addr(name string, ttl int, n int) impl.Record {
	return impl.Record{Name: name, Type: impl.TyAddr, Ttl: ttl, N: n}
}

func server(name string, ttl int, host string) impl.Record {
	return impl.Record{Name: name, Type: impl.TyServer, Ttl: ttl, Host: host}
}

func alias(name string, ttl int, host string) impl.Record {
	return impl.Record{Name: name, Type: impl.TyAlias, Ttl: ttl, Host: host}
}

func text(name string, ttl int, s string) impl.Record {
	return impl.Record{Name: name, Type: impl.TyText, Ttl: ttl, Text: s}
}

// mixture has several names, types, hosts and addresses. No two records of a
// set, and no two with the same host or address, stand next to each other.
func mixture() []impl.Record {
	return []impl.Record{
		addr("ex.com", 60, 1), server("ex.com", 50, "ns.com"), addr("", 40, 1), alias("www.ex.com", 30, "ex.com"), addr("ex.com", 20, 2),
		server("", 70, "ns.com"), text("ex.com", 60, "hi"), addr("ex.com", 90, 1), server("ex.com", 10, ""), addr("ns.com", 60, 7),
		server("org", 0, "ns.org"), addr("ex.com", 60, 1), alias("ns.com", 60, "a.org"), server("ex.com", 80, "ns.com"), addr("ex.com", 5, 0),
		{Name: "", Type: impl.TyStart, Ttl: 60, N: 30, Host: "ns.com"}, addr("", 60, 9), text("ex.com", 15, "hi"), addr("ex.com", 60, 2), server("com", 60, "ns.org"),
	}
}

// invalidMixture has records that no message may carry.
func invalidMixture() []impl.Record {
	return []impl.Record{
		{}, addr(".", -1, -1), addr("A", impl.MaxTtl+1, impl.MaxFour+1), server("a..b", -5, ".."), {Type: 3, N: 4, Host: "b", Text: " "}, {},
		{Name: "ex.com", Type: -1, N: 1}, addr("A", -1, math.MinInt), server("", 0, "NS.com"), {Name: "ex.com", Type: 258, Host: "ns.com"}, {Name: "ex.com", Type: impl.TyAddr, N: 3, Host: "h"},
		addr("A", 0, impl.MaxFour+1), server("x", 0, ".."), {Name: "ex.com", Type: -1, N: 1, Ttl: 9}, {Name: "ex.com", Type: impl.TyAlias, N: 5, Host: "ns.org"}, text("\xff", math.MinInt, "\xff\n"),
		{Name: "\xff", Type: math.MaxInt, Ttl: math.MaxInt}, {Name: "ex.com", Type: impl.TyServer, N: 8, Host: "", Text: "t"}, addr(strings.Repeat("a", 300), 1, 1), {Name: "ex.com", Type: impl.TyText, N: 3},
	}
}

// manyRecords returns n records that are drawn from few values, so that names,
// types, hosts, addresses and whole records are repeated.
func manyRecords(seed uint32, n int) []impl.Record {
	next := draws(seed)
	good, bad, mixed := mixture(), invalidMixture(), mixedRecords()
	out := []impl.Record{}
	for range n {
		var r impl.Record
		switch next(5) {
		case 0:
			r = bad[next(len(bad))]
		case 1:
			r = mixed[next(len(mixed))]
		default:
			r = good[next(len(good))]
		}
		if next(2) == 0 {
			r.Ttl = next(7) - 2
		}
		if next(4) == 0 {
			r.N = next(30)
		}
		out = append(out, r)
	}
	return out
}

// someLists are lists of all kinds and sizes.
func someLists() [][]impl.Record {
	out := [][]impl.Record{nil, {}, {{}}, mixture(), invalidMixture(), unsorted(), records(40), slices.Concat(mixture(), invalidMixture(), mixture())}
	for _, r := range mixture() {
		out = append(out, []impl.Record{r}, []impl.Record{r, r}, []impl.Record{r, {}, r})
	}
	for size := range 60 {
		out = append(out, manyRecords(uint32(size), size))
	}
	return append(out, manyRecords(1, 100), manyRecords(2, 101), manyRecords(3, 400), manyNames(150))
}

// manyNames has n records, no two of them with the same name, not in sorted order.
func manyNames(n int) []impl.Record {
	out := []impl.Record{}
	for i := range n {
		name := "a" + strings.Repeat("b", (n-i)%9) + "." + strings.Repeat("c", 1+(n-i)/9)
		out = append(out, server(name, i, "ns."+name))
	}
	return out
}

// modelSet is the set of a name and a type, found without the program.
func modelSet(l []impl.Record, name string, ty int) []impl.Record {
	out := []impl.Record{}
	for _, r := range l {
		if r.Name == name && r.Type == ty {
			out = append(out, r)
		}
	}
	return out
}

// modelFirsts keeps the elements that do not stand further in front as well.
func modelFirsts[T comparable](l []T) []T {
	out := []T{}
	for i, x := range l {
		if slices.Index(l, x) == i {
			out = append(out, x)
		}
	}
	return out
}

func modelKeys(l []impl.Record) []impl.Quest {
	out := []impl.Quest{}
	for _, r := range l {
		out = append(out, impl.Quest{Name: r.Name, Type: r.Type})
	}
	return modelFirsts(out)
}

func modelHosts(l []impl.Record) []string {
	out := []string{}
	for _, r := range l {
		if r.Type == impl.TyServer {
			out = append(out, r.Host)
		}
	}
	return modelFirsts(out)
}

func modelAddrs(l []impl.Record, name string) []int {
	out := []int{}
	for _, r := range modelSet(l, name, impl.TyAddr) {
		out = append(out, r.N)
	}
	return modelFirsts(out)
}

func modelLeast(l []impl.Record) int {
	if len(l) == 0 {
		return 0
	}
	return slices.MinFunc(l, func(a impl.Record, b impl.Record) int { return cmp.Compare(a.Ttl, b.Ttl) }).Ttl
}

func modelWith(l []impl.Record, ttl int) []impl.Record {
	out := []impl.Record{}
	for _, r := range l {
		out = append(out, impl.Record{Name: r.Name, Type: r.Type, Ttl: ttl, N: r.N, Host: r.Host, Text: r.Text})
	}
	return out
}

// holds reports whether every record of b has its data in a.
func holds(a []impl.Record, b []impl.Record) bool {
	data := modelWith(a, 0)
	for _, r := range modelWith(b, 0) {
		if !slices.Contains(data, r) {
			return false
		}
	}
	return true
}

func modelSameData(a []impl.Record, b []impl.Record) bool {
	return holds(a, b) && holds(b, a)
}

func wantList[T comparable](t *testing.T, what string, got []T, want []T) {
	t.Helper()
	if !slices.Equal(got, want) {
		t.Errorf("%s = %s, want %s", what, brief(got), brief(want))
	}
}

// wantSameData fails if SameData, in one of the two orders, is not want.
func wantSameData(t *testing.T, a []impl.Record, b []impl.Record, want bool) {
	t.Helper()
	if impl.SameData(a, b) != want || impl.SameData(b, a) != want {
		t.Errorf("SameData(%s, %s) = %v, and %v the other way", brief(a), brief(b), impl.SameData(a, b), impl.SameData(b, a))
	}
}

// wantSets fails if the records of a key of l are not found, or if the sets of
// all keys, laid together again in the order of l, are not l.
func wantSets(t *testing.T, l []impl.Record) {
	t.Helper()
	sets := map[impl.Quest][]impl.Record{}
	total := 0
	for _, key := range impl.KeysOf(l) {
		set := impl.SetOf(l, key.Name, key.Type)
		if len(set) == 0 {
			t.Errorf("no records of %s in %s", brief(key), brief(l))
		}
		for _, r := range set {
			if r.Name != key.Name || r.Type != key.Type {
				t.Errorf("%s is in the set of %s", brief(r), brief(key))
			}
		}
		sets[key] = set
		total += len(set)
	}
	if total != len(l) {
		t.Fatalf("the sets of %s have %d records", brief(l), total)
	}
	for i, r := range l {
		key := impl.Quest{Name: r.Name, Type: r.Type}
		if len(sets[key]) == 0 || sets[key][0] != r {
			t.Fatalf("record %d of %s is not next in its set %s", i, brief(l), brief(sets[key]))
		}
		sets[key] = sets[key][1:]
	}
}

// wantAsModel fails if a function of the chapter differs from its model for l.
func wantAsModel(t *testing.T, l []impl.Record) {
	t.Helper()
	wantList(t, "KeysOf", impl.KeysOf(l), modelKeys(l))
	wantList(t, "Hosts", impl.Hosts(l), modelHosts(l))
	for _, key := range append(modelKeys(l), impl.Quest{}, impl.Quest{Name: "none", Type: impl.TyAddr}) {
		wantList(t, "SetOf", impl.SetOf(l, key.Name, key.Type), modelSet(l, key.Name, key.Type))
		wantList(t, "Addrs", impl.Addrs(l, key.Name), modelAddrs(l, key.Name))
	}
	for _, ttl := range []int{0, 5, -1} {
		wantList(t, "WithTtl", impl.WithTtl(l, ttl), modelWith(l, ttl))
	}
	if got := impl.LeastTtl(l); got != modelLeast(l) {
		t.Errorf("LeastTtl(%s) = %d, want %d", brief(l), got, modelLeast(l))
	}
	wantSameData(t, l, modelWith(l, 3), true)
}

func TestEverySetIsFound(t *testing.T) {
	for _, l := range someLists() {
		wantSets(t, l)
	}
	for _, l := range [][]impl.Record{goodRecords()[:500], badRecords()[:500], mixedRecords()} {
		wantSets(t, l)
	}
}

func TestSetsAreAsInTheModel(t *testing.T) {
	for _, l := range someLists() {
		wantAsModel(t, l)
	}
}

func TestSetOf(t *testing.T) {
	l := mixture()
	wantList(t, "addresses", impl.SetOf(l, "ex.com", impl.TyAddr), []impl.Record{l[0], l[4], l[7], l[11], l[14], l[18]})
	wantList(t, "servers", impl.SetOf(l, "ex.com", impl.TyServer), []impl.Record{l[1], l[8], l[13]})
	wantList(t, "texts", impl.SetOf(l, "ex.com", impl.TyText), []impl.Record{l[6], l[17]})
	wantList(t, "addresses of the root", impl.SetOf(l, "", impl.TyAddr), []impl.Record{l[2], l[16]})
	wantList(t, "the start of the root", impl.SetOf(l, "", impl.TyStart), []impl.Record{l[15]})
	wantList(t, "one alias", impl.SetOf(l, "www.ex.com", impl.TyAlias), []impl.Record{l[3]})
}

// The name and the type may both occur without occurring together.
func TestSetOfWhatDoesNotOccur(t *testing.T) {
	l := mixture()
	for _, q := range []impl.Quest{
		{Name: "www.ex.com", Type: impl.TyAddr}, {Name: "org", Type: impl.TyAddr}, {Name: "ex.com", Type: impl.TyAlias}, {Name: "ex.com", Type: impl.TyStart}, {Name: "", Type: impl.TyText},
		{Name: "net", Type: impl.TyAddr}, {Name: "ex", Type: impl.TyAddr}, {Name: "com", Type: impl.TyAddr}, {Name: "a.ex.com", Type: impl.TyAddr},
		{Name: "ex.co", Type: impl.TyAddr}, {Name: "ex.comm", Type: impl.TyAddr}, {Name: "Ex.com", Type: impl.TyAddr}, {Name: "ex-com", Type: impl.TyAddr}, {Name: "ex.com.", Type: impl.TyAddr}, {Name: ".", Type: impl.TyAddr},
		{Name: "ex.com"}, {}, {Name: "ex.com", Type: -1}, {Name: "ex.com", Type: 257}, {Name: "ex.com", Type: 1<<32 + 1}, {Name: "ex.com", Type: math.MinInt},
	} {
		wantList(t, "SetOf "+brief(q), impl.SetOf(l, q.Name, q.Type), nil)
	}
}

// Names and types that look alike when they are written one after the other
// are different keys.
func TestKeysAreNotMixedUp(t *testing.T) {
	l := []impl.Record{}
	for _, name := range []string{"", "1", "11", "a", "a1", "a 1", "a-", "a-1", "a.1", "1.a", "A", "a\x00", "a\xff"} {
		for _, ty := range []int{1, 2, 5, 6, 16, 0, -1, 11, 16 - 256, 1 + 1<<16, 1 + 1<<32} {
			l = append(l, impl.Record{Name: name, Type: ty, N: len(l)})
		}
	}
	if got := impl.KeysOf(l); len(got) != len(l) {
		t.Errorf("%d records have %d keys", len(l), len(got))
	}
	for _, r := range l {
		wantList(t, "SetOf", impl.SetOf(l, r.Name, r.Type), []impl.Record{r})
	}
	wantSets(t, slices.Concat(l, l))
}

func TestKeysOf(t *testing.T) {
	wantList(t, "KeysOf", impl.KeysOf(mixture()), []impl.Quest{
		{Name: "ex.com", Type: impl.TyAddr}, {Name: "ex.com", Type: impl.TyServer}, {Name: "", Type: impl.TyAddr}, {Name: "www.ex.com", Type: impl.TyAlias}, {Name: "", Type: impl.TyServer},
		{Name: "ex.com", Type: impl.TyText}, {Name: "ns.com", Type: impl.TyAddr}, {Name: "org", Type: impl.TyServer}, {Name: "ns.com", Type: impl.TyAlias}, {Name: "", Type: impl.TyStart}, {Name: "com", Type: impl.TyServer},
	})
	permutations(mixture()[:6], func(l []impl.Record) {
		wantList(t, "KeysOf", impl.KeysOf(l), modelKeys(l))
	})
}

// The smallest time to live counts wherever it stands, also if it stands there
// several times.
func TestLeastTtl(t *testing.T) {
	permutations([]impl.Record{addr("a", 7, 1), server("b", 3, "c"), addr("a", 90, 1), text("", 3, "x"), alias("a", impl.MaxTtl, "b"), addr("a", 4, 2)}, func(l []impl.Record) {
		if got := impl.LeastTtl(l); got != 3 {
			t.Fatalf("LeastTtl(%v) = %d", l, got)
		}
	})
	for size := 1; size < 150; size += 7 {
		for at := range size {
			for _, least := range []int{59, 1, 0, -1, -impl.MaxTtl, math.MinInt} {
				l := slices.Repeat([]impl.Record{addr("a", 60, 1)}, size)
				l[at].Ttl = least
				if got := impl.LeastTtl(l); got != least {
					t.Fatalf("LeastTtl = %d, but record %d of %d has %d", got, at, size, least)
				}
			}
		}
	}
}

// The number 0 is the result for no records, and no bound for the others.
func TestLeastTtlOfOneTtl(t *testing.T) {
	for _, ttl := range append(ttlValues(), outOfRange(impl.MaxTtl)...) {
		for size := 1; size < 5; size++ {
			l := modelWith(mixture()[:size], ttl)
			if got := impl.LeastTtl(l); got != ttl {
				t.Errorf("LeastTtl of %d records with %d = %d", size, ttl, got)
			}
		}
	}
	if got := impl.LeastTtl([]impl.Record{{Ttl: math.MaxInt}, {Ttl: math.MinInt}, {}}); got != math.MinInt {
		t.Errorf("LeastTtl = %d", got)
	}
}

func TestWithTtl(t *testing.T) {
	for _, ttl := range append(ttlValues(), outOfRange(impl.MaxTtl)...) {
		for _, l := range [][]impl.Record{nil, mixture(), invalidMixture(), mixedRecords()} {
			got := impl.WithTtl(l, ttl)
			wantList(t, "WithTtl", got, modelWith(l, ttl))
			wantList(t, "WithTtl again", impl.WithTtl(got, -7), modelWith(l, -7))
			if len(l) > 0 && impl.LeastTtl(got) != ttl {
				t.Errorf("LeastTtl = %d, want %d", impl.LeastTtl(got), ttl)
			}
		}
	}
	l := mixture()
	for i, r := range impl.WithTtl(l, 99) {
		if r.Ttl != 99 {
			t.Errorf("record %d has the Ttl %d", i, r.Ttl)
		}
		r.Ttl = l[i].Ttl
		if r != l[i] {
			t.Errorf("record %d has become %v", i, r)
		}
	}
}

func TestHosts(t *testing.T) {
	wantList(t, "Hosts", impl.Hosts(mixture()), []string{"ns.com", "", "ns.org"})
	wantList(t, "Hosts", impl.Hosts([]impl.Record{server("", 0, "")}), []string{""})
	wantList(t, "Hosts", impl.Hosts([]impl.Record{server("a", 0, "z"), server("a", 0, "m"), server("a", 0, "a"), server("b", 0, "m"), server("c", 0, "z"), server("c", 0, "Z")}), []string{"z", "m", "a", "Z"})
	for _, r := range oneOfEach("ex.com") {
		r.Host = "ns.ex.com"
		want := []string{}
		if r.Type == impl.TyServer {
			want = []string{"ns.ex.com"}
		}
		wantList(t, "Hosts", impl.Hosts([]impl.Record{r, r}), want)
	}
	for _, ty := range noTypes() {
		wantList(t, "Hosts", impl.Hosts([]impl.Record{{Type: ty, Host: "ns.com"}}), nil)
	}
}

func TestAddrs(t *testing.T) {
	l := mixture()
	wantList(t, "Addrs of ex.com", impl.Addrs(l, "ex.com"), []int{1, 2, 0})
	wantList(t, "Addrs of the root", impl.Addrs(l, ""), []int{1, 9})
	wantList(t, "Addrs of ns.com", impl.Addrs(l, "ns.com"), []int{7})
	for _, name := range []string{"www.ex.com", "org", "com", "net", "ex.co", "ex.comm", "eex.com", "Ex.com", "ex-com", "ex.com.", ".ex.com", ".", "ns", "\x00"} {
		wantList(t, "Addrs of "+name, impl.Addrs(l, name), nil)
	}
	high := []impl.Record{addr("a", 0, impl.MaxFour), addr("a", 0, 5), addr("a", 0, -1), addr("a", 0, 5+1<<32), addr("a", 9, impl.MaxFour), addr("a", 0, math.MinInt), addr("b", 0, 6), addr("a", 0, -1)}
	wantList(t, "Addrs of a", impl.Addrs(high, "a"), []int{impl.MaxFour, 5, -1, 5 + 1<<32, math.MinInt})
	for _, ty := range append(noTypes(), recordTypes()[1:]...) {
		wantList(t, "Addrs", impl.Addrs([]impl.Record{{Name: "a", Type: ty, N: 1}}, "a"), nil)
	}
}

func TestSameDataOfAllOrders(t *testing.T) {
	l := mixture()[:6]
	less, more := l[1:], mixture()[:7]
	permutations(slices.Clone(l), func(other []impl.Record) {
		if !impl.SameData(l, other) || !impl.SameData(other, l) || !impl.SameData(impl.WithTtl(other, 1), l) {
			t.Fatalf("not the same: %v", other)
		}
		if impl.SameData(less, other) || impl.SameData(other, less) || impl.SameData(more, other) || impl.SameData(other, more) {
			t.Fatalf("the same as with one record less or more: %v", other)
		}
	})
}

// One list may hold all of the other and one record more.
func TestSameDataOfParts(t *testing.T) {
	l := modelFirsts(modelWith(slices.Concat(mixture(), invalidMixture()), 0))
	for n := range len(l) {
		wantSameData(t, l[:n], l[:n], true)
		wantSameData(t, l[:n], l[:n+1], false)
		wantSameData(t, l[n:], l[n+1:], false)
		without := slices.Delete(slices.Clone(l), n, n+1)
		wantSameData(t, l, without, false)
		wantSameData(t, append(without, l[n]), l, true)
		other := slices.Clone(l)
		other[n].Ttl = n - 3
		wantSameData(t, l, other, true)
	}
}

// How often a record occurs does not count, but whether it occurs does: lists
// of the same size may have other records.
func TestSameDataDoesNotCount(t *testing.T) {
	a, b, c := addr("a", 1, 1), addr("a", 2, 2), server("a", 3, "b")
	wantSameData(t, []impl.Record{a}, []impl.Record{a, a, a}, true)
	wantSameData(t, []impl.Record{a, b, a}, []impl.Record{b, a, b}, true)
	wantSameData(t, []impl.Record{a, a, b}, []impl.Record{b, a}, true)
	wantSameData(t, []impl.Record{a, a, b}, []impl.Record{a, a, c}, false)
	wantSameData(t, []impl.Record{a, a}, []impl.Record{a, b}, false)
	wantSameData(t, []impl.Record{a, b}, []impl.Record{a, c}, false)
	wantSameData(t, []impl.Record{a}, []impl.Record{b}, false)
	wantSameData(t, slices.Repeat([]impl.Record{a, b}, 200), []impl.Record{b, a}, true)
	wantSameData(t, slices.Repeat([]impl.Record{a, b}, 200), []impl.Record{b, a, c}, false)
}

// Every field but the Ttl makes a difference, and no two fields are mixed up.
func TestSameDataOfAllPairs(t *testing.T) {
	all := append(mixedRecords(), impl.Record{Host: "a"}, impl.Record{Text: "a"}, impl.Record{Host: "a", Text: "b"}, impl.Record{Host: "ab"}, impl.Record{Text: "ab"}, impl.Record{N: 1}, impl.Record{Type: 1}, impl.Record{Ttl: 1}, impl.Record{N: 12}, impl.Record{N: 1, Host: "2"})
	for i, a := range all {
		for j, b := range all {
			a.Ttl, b.Ttl = 0, 0
			if got := impl.SameData(all[i:i+1], all[j:j+1]); got != (a == b) {
				t.Fatalf("SameData of %#v and %#v = %v", all[i], all[j], got)
			}
		}
	}
}

func TestSameDataOfDrawnLists(t *testing.T) {
	next := draws(9)
	few := append(mixture()[:3], invalidMixture()[:2]...)
	same := 0
	for range 20000 {
		lists := [2][]impl.Record{}
		for i := range lists {
			for range next(6) {
				r := few[next(len(few))]
				r.Ttl = next(3) - 1
				lists[i] = append(lists[i], r)
			}
		}
		want := modelSameData(lists[0], lists[1])
		if want {
			same++
		}
		wantSameData(t, lists[0], lists[1], want)
	}
	if same < 1000 || same > 19000 {
		t.Errorf("%d of the drawn lists are the same", same)
	}
}

// Records that differ in the Ttl alone are different records of one set, with
// the same data.
func TestRecordsThatDifferInTheTtl(t *testing.T) {
	for _, r := range append(oneOfEach("ex.com"), invalidMixture()...) {
		l := []impl.Record{}
		for _, ttl := range []int{60, 0, -1, 60, impl.MaxTtl, math.MinInt, math.MaxInt, 1} {
			r.Ttl = ttl
			l = append(l, r)
		}
		wantList(t, "SetOf", impl.SetOf(l, r.Name, r.Type), l)
		wantList(t, "KeysOf", impl.KeysOf(l), []impl.Quest{{Name: r.Name, Type: r.Type}})
		wantList(t, "WithTtl", impl.WithTtl(l, 4), modelWith(l, 4))
		wantAsModel(t, l)
		for i := range l {
			wantSameData(t, l, l[i:i+1], true)
			wantSameData(t, l[:i+1], l[i:], true)
		}
		if got := impl.LeastTtl(l); got != math.MinInt {
			t.Errorf("LeastTtl = %d", got)
		}
	}
}

// A record that occurs several times stays in its set as often.
func TestRecordsThatOccurSeveralTimes(t *testing.T) {
	for _, r := range append(mixture(), invalidMixture()...) {
		other := text("other", 1, "x")
		for n := 1; n < 5; n++ {
			l := []impl.Record{}
			for range n {
				l = append(l, r, other)
			}
			wantList(t, "SetOf", impl.SetOf(l, r.Name, r.Type), slices.Repeat([]impl.Record{r}, n))
			wantList(t, "KeysOf", impl.KeysOf(l), []impl.Quest{{Name: r.Name, Type: r.Type}, {Name: "other", Type: impl.TyText}})
			wantList(t, "Hosts", impl.Hosts(l), modelHosts([]impl.Record{r}))
			wantList(t, "Addrs", impl.Addrs(l, r.Name), modelAddrs([]impl.Record{r}, r.Name))
			wantSameData(t, l, []impl.Record{other, r}, true)
		}
	}
}

func TestSetsOfNoRecords(t *testing.T) {
	for _, l := range [][]impl.Record{nil, {}, mixture()[:0], mixture()[5:5]} {
		for _, name := range append(someNames(), someBadNames()...) {
			for _, ty := range append(recordTypes(), noTypes()...) {
				wantList(t, "SetOf", impl.SetOf(l, name, ty), nil)
			}
			wantList(t, "Addrs", impl.Addrs(l, name), nil)
		}
		wantList(t, "KeysOf", impl.KeysOf(l), nil)
		wantList(t, "Hosts", impl.Hosts(l), nil)
		wantList(t, "WithTtl", impl.WithTtl(l, 60), nil)
		if got := impl.LeastTtl(l); got != 0 {
			t.Errorf("LeastTtl = %d", got)
		}
		for _, other := range [][]impl.Record{nil, {}, mixture()[:0]} {
			wantSameData(t, l, other, true)
		}
		wantSameData(t, l, []impl.Record{{}}, false)
		wantSameData(t, l, mixture(), false)
	}
}

// The chapter asks for no check, so what is invalid is a value like any other.
func TestSetsOfInvalidRecords(t *testing.T) {
	wantAsModel(t, invalidMixture())
	wantSets(t, invalidMixture())
	wantList(t, "Hosts", impl.Hosts(invalidMixture()), []string{"..", "NS.com", ""})
	wantList(t, "Addrs", impl.Addrs(invalidMixture(), "A"), []int{impl.MaxFour + 1, math.MinInt})
	wantList(t, "Addrs", impl.Addrs(invalidMixture(), "ex.com"), []int{3})
	bad := badRecords()
	for i, r := range bad {
		if i%7 == 0 {
			wantAsModel(t, []impl.Record{r, bad[(i*5)%len(bad)], r})
		}
	}
	for _, name := range badNames() {
		l := []impl.Record{addr(name, -1, -2), addr("a", 1, 3), server(name, -3, name), addr(name, 0, -2), {Name: name, Type: -4, N: 5}}
		wantList(t, "SetOf", impl.SetOf(l, name, impl.TyAddr), []impl.Record{l[0], l[3]})
		wantList(t, "SetOf", impl.SetOf(l, name, -4), l[4:])
		wantList(t, "Addrs", impl.Addrs(l, name), []int{-2})
		wantList(t, "Hosts", impl.Hosts(l), []string{name})
		wantSets(t, l)
	}
	for _, ty := range noTypes() {
		l := []impl.Record{{Name: "a", Type: ty}, addr("a", 1, 1), {Name: "a", Type: ty, N: -1}}
		wantList(t, "SetOf", impl.SetOf(l, "a", ty), []impl.Record{l[0], l[2]})
		wantList(t, "KeysOf", impl.KeysOf(l), []impl.Quest{{Name: "a", Type: ty}, {Name: "a", Type: impl.TyAddr}})
	}
}

// The same list gives the same results, in the same order, however often and
// after whatever other lists.
func TestSetsAfterManyCalls(t *testing.T) {
	long := slices.Concat(manyNames(200), mixture(), manyRecords(7, 300))
	lists := someLists()
	keys, hosts := modelKeys(long), modelHosts(long)
	set, addrs := modelSet(long, "ex.com", impl.TyAddr), modelAddrs(long, "ex.com")
	for i := range 300 {
		other := lists[i%len(lists)]
		impl.KeysOf(other)
		impl.Hosts(other)
		impl.SetOf(other, "ex.com", impl.TyAddr)
		impl.Addrs(other, "ex.com")
		wantList(t, "KeysOf", impl.KeysOf(long), keys)
		wantList(t, "Hosts", impl.Hosts(long), hosts)
		wantList(t, "SetOf", impl.SetOf(long, "ex.com", impl.TyAddr), set)
		wantList(t, "Addrs", impl.Addrs(long, "ex.com"), addrs)
		wantSameData(t, long, other, modelSameData(long, other))
		wantSameData(t, long, modelWith(long, i), true)
	}
}

// checkFreshList fails if get changes its argument or the spare capacity of it,
// depends on that capacity, or returns memory that it shares.
func checkFreshList[T comparable](t *testing.T, name string, get func(l []impl.Record) []T, mark T) {
	t.Helper()
	for length := range len(mixture()) + 1 {
		whole, want := mixture(), get(slices.Clone(mixture()[:length]))
		out, other := get(whole[:length]), get(whole[:length])
		wantList(t, name, out, want)
		out = out[:cap(out)]
		for i := range out {
			out[i] = mark
		}
		wantList(t, "the argument of "+name, whole, mixture())
		wantList(t, "another result of "+name, other, want)
		wantList(t, "a later result of "+name, get(whole[:length]), want)
		fillRecords(whole, "y")
		wantList(t, "a result of "+name+" after a change of the argument", other, want)
	}
}

func TestSetsShareNoMemory(t *testing.T) {
	mark := impl.Record{Name: "x", Type: impl.TyText, Ttl: 3, N: 4, Host: "x", Text: "x"}
	for _, key := range append(modelKeys(mixture()), impl.Quest{}) {
		checkFreshList(t, "SetOf", func(l []impl.Record) []impl.Record { return impl.SetOf(l, key.Name, key.Type) }, mark)
		checkFreshList(t, "Addrs", func(l []impl.Record) []int { return impl.Addrs(l, key.Name) }, -9)
	}
	checkFreshList(t, "WithTtl", func(l []impl.Record) []impl.Record { return impl.WithTtl(l, 60) }, mark)
	checkFreshList(t, "Hosts", impl.Hosts, "x")
	checkFreshList(t, "KeysOf", impl.KeysOf, impl.Quest{Name: "x"})
}

// A list in which nothing is to be replaced or left out is copied as well.
func TestSetsCopyWholeLists(t *testing.T) {
	l := []impl.Record{addr("a", 60, 1), addr("a", 60, 2), addr("a", 60, 3)}
	before := slices.Clone(l)
	fillRecords(impl.SetOf(l, "a", impl.TyAddr), "x")
	fillRecords(impl.WithTtl(l, 60), "x")
	wantList(t, "the list", l, before)
}

// LeastTtl and SameData change nothing, and read nothing beyond the length.
func TestComparingDataChangesNothing(t *testing.T) {
	whole, other := mixture(), mixture()
	other[0].Ttl = -1
	fillRecords(other[6:], "x")
	before := slices.Clone(other)
	for length := range len(whole) + 1 {
		wantSameData(t, whole[:length], other[:length], length <= 6)
		if got := impl.LeastTtl(whole[:length]); got != modelLeast(mixture()[:length]) {
			t.Errorf("LeastTtl of %d records = %d", length, got)
		}
		wantList(t, "the first argument", whole, mixture())
		wantList(t, "the second argument", other, before)
	}
}
