package tests

import (
	"cmp"
	"fmt"
	"math"
	"slices"
	"strings"
	"testing"

	"loop.example/g00497/impl"
)

func recordTypes() []int {
	return []int{impl.TyAddr, impl.TyServer, impl.TyAlias, impl.TyStart, impl.TyText}
}

// noTypes has all other numbers around and between the types, and some far away.
func noTypes() []int {
	out := []int{-16, -6, -5, -2, -1, 255, 256, 257, 258, 1<<16 + 1, 1 << 32, 1<<32 + 1, 1<<32 + 16, math.MaxInt, math.MinInt, math.MinInt + 1}
	for n := range 40 {
		if !slices.Contains(recordTypes(), n) {
			out = append(out, n)
		}
	}
	return out
}

// ttlValues and addrValues have the limits; what lies outside them is outOfRange.
func ttlValues() []int {
	return []int{0, 1, 2, 60, 3600, 65535, 65536, impl.MaxTtl - 1, impl.MaxTtl}
}

func addrValues() []int {
	return append(ttlValues(), impl.MaxTtl+1, 1<<24, impl.MaxFour-1, impl.MaxFour)
}

func goodTexts() []string {
	out := []string{"", "a", "A", "hi", "'", "''", ".", "!", "~", "!~", "a.b", "0", "-1", "\"", "\\", "twelve-bytes", "TWELVE=BYTES", strings.Repeat("!", 12), strings.Repeat("~", 12)}
	for c := 33; c <= 126; c++ {
		s := string(rune(c))
		out = append(out, s, s+"b", "b"+s, "b"+s+"b", strings.Repeat("b", 11)+s)
	}
	return out
}

func badTexts() []string {
	out := []string{
		"thirteenbytes", strings.Repeat("a", 13), strings.Repeat("~", 13), strings.Repeat("a", 255), strings.Repeat("a", 256), strings.Repeat("a", 268), strings.Repeat("a", 5000),
		" ", "a b", " a", "a ", "\n", "a\n", "\u00e9", "caf\u00e9", "\u3000", "\ufffd", "\u0121", "\xff\xfe", "a\xc3",
	}
	for c := range 256 {
		if c < 33 || c > 126 {
			s := string([]byte{byte(c)})
			out = append(out, s, s+"b", "b"+s, "b"+s+"b", strings.Repeat("b", 11)+s, s+strings.Repeat("b", 11))
		}
	}
	return out
}

// oneOfEach has a valid record of each type for this name.
func oneOfEach(name string) []impl.Record {
	return []impl.Record{
		{Name: name, Type: impl.TyAddr, Ttl: 60, N: 7},
		{Name: name, Type: impl.TyServer, Ttl: 60, Host: "ns.com"},
		{Name: name, Type: impl.TyAlias, Ttl: 60, Host: "www.ex.com"},
		{Name: name, Type: impl.TyStart, Ttl: 60, N: 30, Host: "ns.com"},
		{Name: name, Type: impl.TyText, Ttl: 60, Text: "hi"},
	}
}

// dataOfEach has records of this name with all data that are of interest.
func dataOfEach(name string, ttl int) []impl.Record {
	out := []impl.Record{}
	for _, n := range addrValues() {
		out = append(out, impl.Record{Name: name, Type: impl.TyAddr, Ttl: ttl, N: n})
	}
	for _, host := range someNames() {
		out = append(out, impl.Record{Name: name, Type: impl.TyServer, Ttl: ttl, Host: host}, impl.Record{Name: name, Type: impl.TyAlias, Ttl: ttl, Host: host})
		for _, n := range ttlValues() {
			out = append(out, impl.Record{Name: name, Type: impl.TyStart, Ttl: ttl, N: n, Host: host})
		}
	}
	for _, text := range []string{"", "hi", "'", ".", "!", "~", "a.b", "0", "twelve-bytes"} {
		out = append(out, impl.Record{Name: name, Type: impl.TyText, Ttl: ttl, Text: text})
	}
	return out
}

func goodRecords() []impl.Record {
	out := []impl.Record{}
	for _, name := range []string{"", "a", "www.ex.com", fiftyBytes} {
		for _, ttl := range ttlValues() {
			out = append(out, dataOfEach(name, ttl)...)
		}
	}
	for _, name := range goodNames() {
		out = append(out, oneOfEach(name)...)
	}
	for _, text := range goodTexts() {
		out = append(out, impl.Record{Name: "a", Type: impl.TyText, Text: text}, impl.Record{Type: impl.TyText, Ttl: impl.MaxTtl, Text: text})
	}
	return out
}

// badFields changes one field of a valid record in all ways that make it invalid.
func badFields(r impl.Record) []impl.Record {
	out := []impl.Record{}
	add := func(change func(x *impl.Record)) {
		x := r
		change(&x)
		out = append(out, x)
	}
	for _, n := range noTypes() {
		add(func(x *impl.Record) { x.Type = n })
	}
	for _, s := range badNames() {
		add(func(x *impl.Record) { x.Name = s })
		add(func(x *impl.Record) { x.Host = s })
	}
	for _, n := range outOfRange(impl.MaxTtl) {
		add(func(x *impl.Record) { x.Ttl = n })
	}
	for _, n := range badNumbers(r.Type) {
		add(func(x *impl.Record) { x.N = n })
	}
	if r.Type == impl.TyAddr || r.Type == impl.TyText {
		for _, s := range []string{"a", "ns.com", "-", fiftyBytes} {
			add(func(x *impl.Record) { x.Host = s })
		}
	}
	for _, s := range badTexts() {
		add(func(x *impl.Record) { x.Text = s })
	}
	if r.Type != impl.TyText {
		for _, s := range []string{"a", "hi", "!", "twelve-bytes"} {
			add(func(x *impl.Record) { x.Text = s })
		}
	}
	return out
}

func badNumbers(ty int) []int {
	switch ty {
	case impl.TyAddr:
		return outOfRange(impl.MaxFour)
	case impl.TyStart:
		return append(outOfRange(impl.MaxTtl), impl.MaxFour, impl.MaxFour+1)
	}
	return append(outOfRange(impl.MaxFour), 1, 2, 60, impl.MaxTtl, impl.MaxTtl+1, impl.MaxFour)
}

// badRecords are invalid by one field, at the root and below it, and by several.
func badRecords() []impl.Record {
	out := []impl.Record{
		{}, {Name: "com"}, {Host: "com"}, {Text: "a"}, {N: 1}, {Ttl: 1},
		{Name: ".", Type: impl.TyAddr}, {Type: impl.TyServer, Host: "."}, {Name: "A", Type: 3, Ttl: -1, N: -1, Host: "..", Text: " "},
		{Name: "com", Type: impl.TyAddr, N: 1, Host: "ns.com", Text: "a"}, {Name: "com", Type: impl.TyText, N: 1, Host: "ns.com", Text: "a"},
	}
	for _, name := range []string{"", "ex.com"} {
		for _, r := range oneOfEach(name) {
			out = append(out, badFields(r)...)
		}
	}
	return out
}

// mixedRecords has few values of each field in all combinations, valid or not.
func mixedRecords() []impl.Record {
	out := []impl.Record{}
	for _, name := range []string{"", "b", "z.b", ".", "B"} {
		for _, ty := range []int{-1, impl.TyAddr, impl.TyText} {
			for _, n := range []int{-1, 0, 9} {
				for _, host := range []string{"", "c", "a.c", "c."} {
					for _, text := range []string{"", "Z", "a", "a\xff"} {
						for _, ttl := range []int{0, 1, impl.MaxTtl + 1} {
							out = append(out, impl.Record{Name: name, Type: ty, Ttl: ttl, N: n, Host: host, Text: text})
						}
					}
				}
			}
		}
	}
	return out
}

// modelCompare compares records without the program.
func modelCompare(a impl.Record, b impl.Record) int {
	return cmp.Or(
		slices.Compare(reversed(a.Name), reversed(b.Name)),
		cmp.Compare(a.Type, b.Type),
		cmp.Compare(a.N, b.N),
		slices.Compare(reversed(a.Host), reversed(b.Host)),
		strings.Compare(a.Text, b.Text),
		cmp.Compare(a.Ttl, b.Ttl),
	)
}

// modelSort inserts each record behind those that it is not less than, so it is stable.
func modelSort(l []impl.Record) []impl.Record {
	out := []impl.Record{}
	for _, r := range l {
		at := len(out)
		for at > 0 && modelCompare(r, out[at-1]) < 0 {
			at--
		}
		out = slices.Insert(out, at, r)
	}
	return out
}

func dotted(s string) string {
	if s == "" {
		return "."
	}
	return s
}

// modelText is the text of a valid record, written without the program.
func modelText(r impl.Record) string {
	front := fmt.Sprintf("%s %d ", dotted(r.Name), r.Ttl)
	switch r.Type {
	case impl.TyAddr:
		return front + fmt.Sprintf("addr %d", r.N)
	case impl.TyServer:
		return front + "server " + dotted(r.Host)
	case impl.TyAlias:
		return front + "alias " + dotted(r.Host)
	case impl.TyStart:
		return front + fmt.Sprintf("start %s %d", dotted(r.Host), r.N)
	}
	return front + "text '" + r.Text
}

// brief is what Go would write for v, cut off where that is too long to read.
func brief(v any) string {
	return fmt.Sprintf("%.400s", fmt.Sprintf("%#v", v))
}

func wantLess(t *testing.T, a impl.Record, b impl.Record) {
	t.Helper()
	if !impl.LessRecord(a, b) {
		t.Errorf("LessRecord(%s, %s) = false", brief(a), brief(b))
	}
	if impl.LessRecord(b, a) {
		t.Errorf("LessRecord(%s, %s) = true", brief(b), brief(a))
	}
}

func wantSorted(t *testing.T, l []impl.Record) {
	t.Helper()
	got, want := impl.SortRecords(l), modelSort(l)
	if !slices.Equal(got, want) {
		t.Errorf("SortRecords of %d records %s = %s", len(l), brief(l), brief(got))
	}
}

func TestTypes(t *testing.T) {
	if !slices.Equal(recordTypes(), []int{1, 2, 5, 6, 16}) || impl.MaxTtl != 100000 {
		t.Error(recordTypes(), impl.MaxTtl)
	}
	texts := []string{"addr", "server", "alias", "start", "text"}
	for i, n := range recordTypes() {
		if !impl.TypeOk(n) || impl.TypeText(n) != texts[i] {
			t.Errorf("TypeOk(%d) = %v, TypeText = %q", n, impl.TypeOk(n), impl.TypeText(n))
		}
	}
	for _, n := range noTypes() {
		if impl.TypeOk(n) || impl.TypeText(n) != "" {
			t.Errorf("TypeOk(%d) = %v, TypeText = %q", n, impl.TypeOk(n), impl.TypeText(n))
		}
	}
}

func TestRecordOk(t *testing.T) {
	for _, r := range goodRecords() {
		if !impl.RecordOk(r) {
			t.Errorf("RecordOk(%#v) = false", r)
		}
	}
	for _, r := range badRecords() {
		if impl.RecordOk(r) {
			t.Errorf("RecordOk(%s) = true", brief(r))
		}
	}
}

// The root is a name like any other: it has records, and it may be a host.
func TestRecordsOfTheRoot(t *testing.T) {
	for _, c := range []struct {
		r    impl.Record
		text string
	}{
		{impl.Record{Type: impl.TyAddr}, ". 0 addr 0"},
		{impl.Record{Type: impl.TyAddr, Ttl: 60, N: 2}, ". 60 addr 2"},
		{impl.Record{Type: impl.TyServer}, ". 0 server ."},
		{impl.Record{Type: impl.TyServer, Ttl: 60, Host: "ns.com"}, ". 60 server ns.com"},
		{impl.Record{Name: "com", Type: impl.TyServer, Ttl: 60}, "com 60 server ."},
		{impl.Record{Type: impl.TyAlias}, ". 0 alias ."},
		{impl.Record{Type: impl.TyAlias, Ttl: 60, Host: "com"}, ". 60 alias com"},
		{impl.Record{Name: "ex.com", Type: impl.TyAlias, Ttl: 60}, "ex.com 60 alias ."},
		{impl.Record{Type: impl.TyStart}, ". 0 start . 0"},
		{impl.Record{Type: impl.TyStart, Ttl: 60, N: 30, Host: "ns.com"}, ". 60 start ns.com 30"},
		{impl.Record{Name: "com", Type: impl.TyStart, Ttl: 60, N: 30}, "com 60 start . 30"},
		{impl.Record{Type: impl.TyText}, ". 0 text '"},
		{impl.Record{Type: impl.TyText, Ttl: 60, Text: "."}, ". 60 text '."},
	} {
		if !impl.RecordOk(c.r) || impl.RecordText(c.r) != c.text {
			t.Errorf("RecordOk(%#v) = %v, RecordText = %q", c.r, impl.RecordOk(c.r), impl.RecordText(c.r))
		}
	}
	for _, ty := range recordTypes() {
		root, dot := impl.Record{Type: ty}, impl.Record{Name: ".", Type: ty}
		if !impl.RecordOk(root) || impl.RecordOk(dot) || impl.RecordText(dot) != "" {
			t.Errorf("type %d: RecordOk = %v, and with a dot as name %v and %q", ty, impl.RecordOk(root), impl.RecordOk(dot), impl.RecordText(dot))
		}
		dot = impl.Record{Type: ty, Host: "."}
		if impl.RecordOk(dot) || impl.RecordText(dot) != "" {
			t.Errorf("type %d with a dot as host: %v and %q", ty, impl.RecordOk(dot), impl.RecordText(dot))
		}
	}
	for _, name := range []string{"a", "-", "com", "ns.com", ".", "A"} {
		for _, r := range oneOfEach(name) {
			wantLess(t, impl.Record{Type: impl.TyText, Ttl: impl.MaxTtl, Text: "~"}, r)
		}
	}
}

func TestLimitsOfRecords(t *testing.T) {
	for _, ty := range recordTypes() {
		for _, n := range []int{-1, 0, 1, impl.MaxTtl - 1, impl.MaxTtl, impl.MaxTtl + 1, impl.MaxFour - 1, impl.MaxFour, impl.MaxFour + 1} {
			small := 0 <= n && n <= impl.MaxTtl
			if got := impl.RecordOk(impl.Record{Name: "a", Type: ty, Ttl: n}); got != small {
				t.Errorf("type %d, Ttl %d: %v", ty, n, got)
			}
			want := n == 0 || ty == impl.TyStart && small || ty == impl.TyAddr && 0 <= n && n <= impl.MaxFour
			if got := impl.RecordOk(impl.Record{Name: "a", Type: ty, N: n}); got != want {
				t.Errorf("type %d, N %d: %v", ty, n, got)
			}
		}
	}
}

// One byte at every place of a text decides whether it is valid.
func TestTextEveryByte(t *testing.T) {
	for size := range 30 {
		r := impl.Record{Name: "a", Type: impl.TyText, Text: strings.Repeat("x", size)}
		if got := impl.RecordOk(r); got != (size <= impl.MaxLabel) {
			t.Errorf("RecordOk with a text of %d bytes = %v", size, got)
		}
	}
	for size := 1; size <= impl.MaxLabel; size++ {
		for at := range size {
			for c := range 256 {
				b := []byte(strings.Repeat("x", size))
				b[at] = byte(c)
				r := impl.Record{Name: "a", Type: impl.TyText, Text: string(b)}
				if got := impl.RecordOk(r); got != (33 <= c && c <= 126) {
					t.Errorf("RecordOk with the text %q = %v", b, got)
				}
			}
		}
	}
}

// Every combination of set fields is valid for the types that use them all.
func TestFieldsThatATypeDoesNotUse(t *testing.T) {
	uses := map[int]string{impl.TyAddr: "n", impl.TyServer: "h", impl.TyAlias: "h", impl.TyStart: "nh", impl.TyText: "t"}
	for _, ty := range append(recordTypes(), noTypes()...) {
		for _, fields := range []string{"", "n", "h", "t", "nh", "nt", "ht", "nht"} {
			r := impl.Record{Name: "a", Type: ty, Ttl: 1}
			want := slices.Contains(recordTypes(), ty)
			for _, field := range fields {
				want = want && strings.ContainsRune(uses[ty], field)
				switch field {
				case 'n':
					r.N = 1
				case 'h':
					r.Host = "b"
				case 't':
					r.Text = "c"
				}
			}
			if got := impl.RecordOk(r); got != want {
				t.Errorf("RecordOk(%#v) = %v", r, got)
			}
			if got := impl.RecordText(r); (got != "") != want {
				t.Errorf("RecordText(%#v) = %q", r, got)
			}
		}
	}
}

func TestRecordText(t *testing.T) {
	for _, c := range []struct {
		r    impl.Record
		text string
	}{
		{impl.Record{Name: "ns.com", Type: impl.TyAddr, Ttl: 60, N: 2}, "ns.com 60 addr 2"},
		{impl.Record{Name: "a", Type: impl.TyAddr, Ttl: impl.MaxTtl, N: impl.MaxFour}, "a 100000 addr 2147483647"},
		{impl.Record{Name: "ex.com", Type: impl.TyServer, Ttl: 1, Host: "ns.ex.com"}, "ex.com 1 server ns.ex.com"},
		{impl.Record{Name: "www.ex.com", Type: impl.TyAlias, Ttl: 10, Host: "ex.org"}, "www.ex.com 10 alias ex.org"},
		{impl.Record{Name: "com", Type: impl.TyStart, Ttl: 5, N: impl.MaxTtl, Host: "ns.com"}, "com 5 start ns.com 100000"},
		{impl.Record{Name: "_x", Type: impl.TyText, Ttl: 7, Text: "hi"}, "_x 7 text 'hi"},
		{impl.Record{Name: "a", Type: impl.TyText, Text: "'"}, "a 0 text ''"},
		{impl.Record{Name: "a", Type: impl.TyText}, "a 0 text '"},
		{impl.Record{Name: "a", Type: impl.TyAddr}, "a 0 addr 0"},
		{impl.Record{Name: fiftyBytes, Type: impl.TyAlias, Host: fiftyInSix}, fiftyBytes + " 0 alias " + fiftyInSix},
	} {
		if got := impl.RecordText(c.r); got != c.text {
			t.Errorf("RecordText(%#v) = %q, want %q", c.r, got, c.text)
		}
	}
	for _, r := range goodRecords() {
		if got, want := impl.RecordText(r), modelText(r); got != want {
			t.Errorf("RecordText(%#v) = %q, want %q", r, got, want)
		}
	}
	for _, r := range badRecords() {
		if got := impl.RecordText(r); got != "" {
			t.Errorf("RecordText(%s) = %q", brief(r), got)
		}
	}
}

func TestDifferentRecordsHaveDifferentTexts(t *testing.T) {
	seen := map[string]impl.Record{}
	for _, r := range goodRecords() {
		text := impl.RecordText(r)
		if other, ok := seen[text]; ok && other != r {
			t.Errorf("%#v and %#v have the text %q", r, other, text)
		}
		seen[text] = r
	}
}

// Promise 5, for records of few values in all combinations.
func TestOfTwoDifferentRecordsOneIsLess(t *testing.T) {
	all := mixedRecords()
	for i, a := range all {
		for _, b := range all[i:] {
			less, more := impl.LessRecord(a, b), impl.LessRecord(b, a)
			if a == b && (less || more) {
				t.Fatalf("%#v is less than itself", a)
			}
			if a != b && less == more {
				t.Fatalf("LessRecord of %#v and %#v is %v both ways", a, b, less)
			}
			if want := modelCompare(a, b) < 0; less != want {
				t.Fatalf("LessRecord(%#v, %#v) = %v", a, b, less)
			}
		}
	}
}

// Promise 5, for records that differ in as little as possible, and for invalid ones.
func TestOfManyRecordsOneIsLess(t *testing.T) {
	all := append(dataOfEach("", 0), dataOfEach("a", impl.MaxTtl)...)
	for _, name := range comparedNames() {
		all = append(all, impl.Record{Name: name, Type: impl.TyAddr}, impl.Record{Type: impl.TyAlias, Host: name})
	}
	for _, n := range append(outOfRange(impl.MaxFour), addrValues()...) {
		all = append(all, impl.Record{Type: n}, impl.Record{N: n}, impl.Record{Ttl: n})
	}
	for _, text := range []string{"", " ", "!", "~", "\x00", "\x7f", "\x80", "\xff", "A", "a", "aa", "a\x00", "caf\u00e9", "cafz", strings.Repeat("a", 5000)} {
		all = append(all, impl.Record{Text: text}, impl.Record{Type: impl.TyText, Text: text})
	}
	for i, a := range all {
		for _, b := range all[i:] {
			less, more, want := impl.LessRecord(a, b), impl.LessRecord(b, a), modelCompare(a, b)
			if less != (want < 0) || more != (want > 0) || a == b && (less || more) || a != b && less == more {
				t.Fatalf("LessRecord(%s, %s) = %v, and %v the other way", brief(a), brief(b), less, more)
			}
		}
	}
}

// Each field decides against all fields after it.
func TestLessRecordTakesFieldsInOrder(t *testing.T) {
	low := impl.Record{Name: "z.com", Type: impl.TyServer, N: 1, Host: "z.com", Text: "Z", Ttl: 1}
	high := impl.Record{Name: "a.org", Type: impl.TyAlias, N: 9, Host: "a.org", Text: "a", Ttl: 9}
	copies := []func(to *impl.Record, from impl.Record){
		func(to *impl.Record, from impl.Record) { to.Name = from.Name },
		func(to *impl.Record, from impl.Record) { to.Type = from.Type },
		func(to *impl.Record, from impl.Record) { to.N = from.N },
		func(to *impl.Record, from impl.Record) { to.Host = from.Host },
		func(to *impl.Record, from impl.Record) { to.Text = from.Text },
		func(to *impl.Record, from impl.Record) { to.Ttl = from.Ttl },
	}
	for i, copyFirst := range copies {
		a, b := low, low
		copyFirst(&b, high)
		wantLess(t, a, b)
		for _, copyLater := range copies[i+1:] {
			c := a
			copyLater(&c, high)
			wantLess(t, c, b)
			copyLater(&a, high)
			wantLess(t, a, b)
		}
	}
}

func TestLessRecord(t *testing.T) {
	ordered := []impl.Record{
		{}, {Ttl: 1}, {Text: "~"}, {Host: "a"}, {N: 1},
		{Type: impl.TyAddr}, {Type: impl.TyAddr, Ttl: 5}, {Type: impl.TyAddr, N: 1}, {Type: impl.TyAddr, N: 9, Ttl: 9}, {Type: impl.TyAddr, N: 10, Ttl: 1},
		{Type: impl.TyServer}, {Type: impl.TyServer, Host: "com"}, {Type: impl.TyServer, Host: "z.com"}, {Type: impl.TyServer, Host: "a.org"},
		{Type: impl.TyAlias}, {Type: impl.TyStart, N: 1, Host: "org"}, {Type: impl.TyStart, N: 2, Host: "com"}, {Type: impl.TyText, Text: "a"}, {Type: impl.TyText, Text: "aa"}, {Type: impl.TyText, Text: "b"},
		{Name: "com", Type: impl.TyAddr}, {Name: "com", Type: impl.TyText, Text: "~", Ttl: impl.MaxTtl},
		{Name: "a.com", Type: impl.TyAddr}, {Name: "z.com", Type: impl.TyAddr}, {Name: "org", Type: impl.TyAddr}, {Name: "a.org", Type: impl.TyAddr},
	}
	for i, a := range ordered {
		if impl.LessRecord(a, a) {
			t.Errorf("%#v is less than itself", a)
		}
		for _, b := range ordered[i+1:] {
			wantLess(t, a, b)
		}
	}
}

// permutations calls check with every order of l.
func permutations(l []impl.Record, check func(l []impl.Record)) {
	var swap func(at int)
	swap = func(at int) {
		if at == len(l) {
			check(l)
			return
		}
		for i := at; i < len(l); i++ {
			l[at], l[i] = l[i], l[at]
			swap(at + 1)
			l[at], l[i] = l[i], l[at]
		}
	}
	swap(0)
}

func TestSortRecordsOfAllOrders(t *testing.T) {
	x := impl.Record{Name: "a", Type: impl.TyText, Text: "hi"}
	want := []impl.Record{{Type: impl.TyServer, Host: "ns.com"}, {Name: "a", Type: impl.TyStart, Ttl: 5, N: 9}, x, x, {Name: "a", Type: impl.TyText, Ttl: 1, Text: "hi"}, {Name: "b.a", Type: impl.TyAddr}, {Name: "b", Type: impl.TyAddr}}
	permutations(slices.Clone(want), func(l []impl.Record) {
		if got := impl.SortRecords(l); !slices.Equal(got, want) {
			t.Fatalf("SortRecords(%#v) = %#v", l, got)
		}
	})
}

func TestSortRecordsOfShortLists(t *testing.T) {
	for _, l := range [][]impl.Record{nil, {}} {
		if got := impl.SortRecords(l); len(got) != 0 {
			t.Errorf("SortRecords of no records = %v", got)
		}
	}
	for _, r := range append(goodRecords(), badRecords()...) {
		for n := range 4 {
			l := slices.Repeat([]impl.Record{r}, n)
			if got := impl.SortRecords(l); !slices.Equal(got, l) {
				t.Errorf("SortRecords of %d times %s = %s", n, brief(r), brief(got))
			}
		}
	}
}

// Records of which none is less are equal, so the one order that a stable sort
// may return is the whole of what can be observed.
func TestSortRecordsOfLongLists(t *testing.T) {
	next := draws(5)
	good, bad, mixed := goodRecords(), badRecords(), mixedRecords()
	for size := range 120 {
		l := []impl.Record{}
		for range size {
			switch next(4) {
			case 0:
				l = append(l, good[next(len(good))])
			case 1:
				l = append(l, bad[next(len(bad))])
			case 2:
				l = append(l, mixed[next(len(mixed))])
			default:
				l = append(l, mixed[next(5)])
			}
		}
		wantSorted(t, l)
		sorted := modelSort(l)
		wantSorted(t, sorted)
		slices.Reverse(sorted)
		wantSorted(t, sorted)
	}
	wantSorted(t, mixed)
}

// sameEverywhere fails if SameRecords, in one of the two orders, is not want.
func sameEverywhere(t *testing.T, a []impl.Record, b []impl.Record, want bool) {
	t.Helper()
	if impl.SameRecords(a, b) != want || impl.SameRecords(b, a) != want {
		t.Errorf("SameRecords(%s, %s) = %v, and %v the other way", brief(a), brief(b), impl.SameRecords(a, b), impl.SameRecords(b, a))
	}
}

func TestSameRecords(t *testing.T) {
	sameEverywhere(t, nil, nil, true)
	sameEverywhere(t, nil, []impl.Record{}, true)
	sameEverywhere(t, []impl.Record{}, []impl.Record{}, true)
	sameEverywhere(t, nil, []impl.Record{{}}, false)
	sameEverywhere(t, []impl.Record{}, make([]impl.Record, 2), false)
	for _, r := range append(goodRecords(), badRecords()...) {
		sameEverywhere(t, []impl.Record{r}, []impl.Record{r}, true)
		sameEverywhere(t, []impl.Record{r}, []impl.Record{r, r}, false)
		sameEverywhere(t, []impl.Record{r}, nil, false)
	}
	l := oneOfEach("ex.com")
	for n := range len(l) {
		sameEverywhere(t, l[:n], slices.Clone(l[:n]), true)
		sameEverywhere(t, l[:n], l[:n+1], false)
	}
	other := slices.Clone(l)
	slices.Reverse(other)
	sameEverywhere(t, l, other, false)
}

// One field of one record makes the lists different, wherever the record stands.
func TestSameRecordsLooksAtEveryField(t *testing.T) {
	changes := []func(r *impl.Record){
		func(r *impl.Record) { r.Name += "x" },
		func(r *impl.Record) { r.Type++ },
		func(r *impl.Record) { r.Ttl++ },
		func(r *impl.Record) { r.N++ },
		func(r *impl.Record) { r.Host += "x" },
		func(r *impl.Record) { r.Text += "x" },
		func(r *impl.Record) { r.Name = strings.ToUpper(r.Name) + "." },
		func(r *impl.Record) { r.Ttl = -1 - r.Ttl },
		func(r *impl.Record) { r.N += 1 << 32 },
	}
	for _, name := range []string{"", "ex.com"} {
		l := oneOfEach(name)
		for at := range l {
			for _, change := range changes {
				other := slices.Clone(l)
				change(&other[at])
				sameEverywhere(t, l, other, false)
			}
		}
	}
}

func TestSameRecordsOfAllPairs(t *testing.T) {
	all := mixedRecords()
	for i, a := range all {
		for j, b := range all {
			if got := impl.SameRecords(all[i:i+1], all[j:j+1]); got != (a == b) {
				t.Fatalf("SameRecords of %#v and %#v = %v", a, b, got)
			}
		}
	}
}

// unsorted has records in an order in which a sort must move all of them.
func unsorted() []impl.Record {
	out := modelSort(slices.Concat(oneOfEach("ex.com"), oneOfEach(""), []impl.Record{{Name: "A", Type: -1}}))
	slices.Reverse(out)
	return out
}

func fillRecords(l []impl.Record, name string) {
	for i := range l {
		l[i] = impl.Record{Name: name, Type: impl.TyText, Ttl: 3, N: 4, Host: name, Text: name}
	}
}

func TestSortRecordsSharesNoMemory(t *testing.T) {
	for length := range len(unsorted()) + 1 {
		whole, before := unsorted(), unsorted()
		out, other := impl.SortRecords(whole[:length]), impl.SortRecords(whole[:length])
		if !slices.Equal(whole, before) {
			t.Errorf("SortRecords of %d records changed its argument: %v", length, whole)
		}
		want := modelSort(before[:length])
		fillRecords(out[:cap(out)], "x")
		if !slices.Equal(whole, before) || !slices.Equal(other, want) {
			t.Errorf("the result of SortRecords of %d records shares memory", length)
		}
		fillRecords(whole, "y")
		if !slices.Equal(other, want) {
			t.Errorf("the argument of SortRecords of %d records shares memory", length)
		}
	}
}

// A list that is sorted already is copied as well.
func TestSortRecordsCopiesSortedRecords(t *testing.T) {
	l := modelSort(unsorted())
	out := impl.SortRecords(l)
	fillRecords(out, "x")
	if !slices.Equal(l, modelSort(unsorted())) {
		t.Error("the result shares memory with the argument")
	}
}

// The elements beyond the length are neither compared nor changed.
func TestSameRecordsChangesNothing(t *testing.T) {
	whole, other := unsorted(), unsorted()
	fillRecords(other[3:], "x")
	before := slices.Clone(other)
	for length := range len(whole) + 1 {
		if got := impl.SameRecords(whole[:length], other[:length]); got != (length <= 3) {
			t.Errorf("SameRecords of the first %d records = %v", length, got)
		}
		if !slices.Equal(whole, unsorted()) || !slices.Equal(other, before) {
			t.Errorf("SameRecords of %d records changed its argument", length)
		}
	}
}
