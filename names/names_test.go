package names

import (
	"math"
	"math/rand"
	"slices"
	"strconv"
	"strings"
	"testing"
	"unsafe"

	"concourse/api"
	"concourse/parse"
)

func decl(kind int, name string, l ...api.Field) api.Decl {
	return api.Decl{Kind: kind, Name: name, Fields: l}
}

func service(name string, l ...api.Method) api.Decl {
	return api.Decl{Kind: api.DService, Name: name, Methods: l}
}

func field(tag int, name string) api.Field {
	return api.Field{Tag: tag, Name: name, Type: api.Type{Kind: api.TList, Of: []api.Type{{Kind: api.TNamed, Name: name}}}}
}

func method(tag int, name, in, out string) api.Method {
	return api.Method{Tag: tag, Name: name, In: in, Out: out}
}

func oneWay(tag int, name, in, out string) api.Method {
	return api.Method{Tag: tag, Name: name, In: in, Out: out, OneWay: true}
}

// found asks whether a name leads to a place, and is of a kind.
func found(t *testing.T, x *Table, name string, place, kind int) {
	t.Helper()
	if at, ok := x.Find(name); at != place || !ok {
		t.Fatalf("Find(%q) = %d, %v, not %d, true", name, at, ok, place)
	}
	if k := x.Kind(name); k != kind {
		t.Fatalf("Kind(%q) = %d, not %d", name, k, kind)
	}
}

// notFound asks whether a name is one of nothing.
func notFound(t *testing.T, x *Table, name string) {
	t.Helper()
	if at, ok := x.Find(name); at != 0 || ok {
		t.Fatalf("Find(%q) = %d, %v, not 0, false", name, at, ok)
	}
	if k := x.Kind(name); k != 0 {
		t.Fatalf("Kind(%q) = %d, not 0", name, k)
	}
}

// isField asks whether a tag leads to a place.
func isField(t *testing.T, d api.Decl, tag, place int) {
	t.Helper()
	if at, ok := Field(d, tag); at != place || !ok {
		t.Fatalf("Field(%v, %d) = %d, %v, not %d, true", d, tag, at, ok, place)
	}
}

// noField asks whether a tag stands nowhere.
func noField(t *testing.T, d api.Decl, tags ...int) {
	t.Helper()
	for _, tag := range tags {
		if at, ok := Field(d, tag); at != 0 || ok {
			t.Fatalf("Field(%v, %d) = %d, %v, not 0, false", d, tag, at, ok)
		}
	}
}

// isMethod asks whether a service's method is just this one, field by field.
func isMethod(t *testing.T, l []api.Decl, service string, want api.Method) {
	t.Helper()
	m, ok := Method(l, service, want.Name)
	if !ok || m.Tag != want.Tag || m.Name != want.Name || m.In != want.In || m.Out != want.Out || m.OneWay != want.OneWay {
		t.Fatalf("Method(%v, %q, %q) = %v, %v, not %v, true", l, service, want.Name, m, ok, want)
	}
}

// noMethod asks whether there is no such method, and nothing of any.
func noMethod(t *testing.T, l []api.Decl, service string, methods ...string) {
	t.Helper()
	for _, method := range methods {
		if m, ok := Method(l, service, method); m != (api.Method{}) || ok {
			t.Fatalf("Method(%v, %q, %q) = %v, %v, not nothing, false", l, service, method, m, ok)
		}
	}
}

// isTwice asks whether the first place whose name stood ahead is this one; -1: whether there is none.
func isTwice(t *testing.T, want int, l ...api.Decl) {
	t.Helper()
	if n := Twice(l); n != want {
		t.Fatalf("Twice(%v) = %d, not %d", l, n, want)
	}
	held(t, l)
}

// named are declarations of some names, each of another kind than the one ahead.
func named(l ...string) []api.Decl {
	var k []api.Decl
	for i, s := range l {
		k = append(k, decl(i%4+1, s, field(i, s)))
	}
	return k
}

// parsed are the declarations of a text, which must have some.
func parsed(t *testing.T, s string) []api.Decl {
	t.Helper()
	l, f := parse.Parse(s)
	if f.Err != api.OK || len(l) == 0 {
		t.Fatalf("%q: %v", s, f)
	}
	return l
}

// The chapter's example.
func TestExample(t *testing.T) {
	found(t, Of([]api.Decl{decl(api.DStruct, "P"), decl(api.DEnum, "E")}), "E", 1, api.DEnum)
}

const schemaText = "struct P { 1 x: int; 5 y: text; } union Q { 9 a: P; 2 b: Q?; } enum E { 0 A; 7 B; 9999 C; }" +
	" service S { 1 get(P): R; oneway 20 put(R): P; } struct R { } service T { 3 get(R): R; 4 del(P): P; }"

// 11.1, 11.2: a schema of all kinds of declarations: its names, its tags, its methods.
func TestSchema(t *testing.T) {
	l := parsed(t, schemaText)
	x := Of(l)
	found(t, x, "P", 0, api.DStruct)
	found(t, x, "Q", 1, api.DUnion)
	found(t, x, "E", 2, api.DEnum)
	found(t, x, "S", 3, api.DService)
	found(t, x, "R", 4, api.DStruct)
	found(t, x, "T", 5, api.DService)
	for _, s := range []string{"U", "x", "A", "get", "int", "struct", ""} {
		notFound(t, x, s)
	}
	isField(t, l[0], 1, 0)
	isField(t, l[0], 5, 1)
	noField(t, l[0], 0, 2, 3, 4, 6, 9)
	isField(t, l[1], 9, 0)
	isField(t, l[1], 2, 1)
	noField(t, l[1], 0, 1, 5, 7)
	isField(t, l[2], 0, 0)
	isField(t, l[2], 7, 1)
	isField(t, l[2], 9999, 2)
	noField(t, l[2], 1, 2, 5, 9)
	isMethod(t, l, "S", method(1, "get", "P", "R"))
	isMethod(t, l, "S", oneWay(20, "put", "R", "P"))
	isMethod(t, l, "T", method(3, "get", "R", "R"))
	isMethod(t, l, "T", method(4, "del", "P", "P"))
	noMethod(t, l, "S", "del", "set", "S", "P", "")
	noMethod(t, l, "T", "put", "set", "T", "P", "")
	isTwice(t, -1, l...)
}

// 11.1: each kind of declaration at each place of lists of several lengths.
func TestKinds(t *testing.T) {
	for kind := 1; kind <= 4; kind++ {
		for n := 1; n <= 17; n++ {
			for i := range n {
				l := slices.Repeat([]api.Decl{decl(kind%4+1, "")}, n)
				for j := range l {
					l[j].Name = "n" + strconv.Itoa(j)
				}
				l[i].Kind = kind
				found(t, Of(l), l[i].Name, i, kind)
				held(t, l)
			}
		}
	}
}

// 11.1, 11.2: of no declarations at all there is nothing; a table that is nil has none, either.
func TestNothing(t *testing.T) {
	l := parsed(t, schemaText)
	var none *Table
	for _, s := range []string{"", "P", "S", "E", "\x00"} {
		notFound(t, none, s)
		notFound(t, &Table{}, s)
		for _, no := range [][]api.Decl{nil, {}, l[:0], l[6:]} {
			notFound(t, Of(no), s)
			noMethod(t, no, s, "", "get", s)
			isTwice(t, -1, no...)
		}
	}
	if Of(nil) == nil || Of(l[:0]) == nil {
		t.Fatal("no table")
	}
}

// 11.1, 11.2: one declaration of each kind, with an empty name, too.
func TestOne(t *testing.T) {
	for kind := -1; kind <= 6; kind++ {
		for _, s := range []string{"", "P", "abcdefghijklmnop"} {
			l := []api.Decl{decl(kind, s, field(1, "a"))}
			found(t, Of(l), s, 0, kind)
			isTwice(t, -1, l...)
		}
	}
}

// 11.1, 11.2: names that stand twice and three times, at the front, within and at the end: each is the first declaration that bears it.
func TestTwiceAndMore(t *testing.T) {
	for _, r := range []struct {
		names string
		twice int
	}{
		{"a", -1}, {"aa", 1}, {"ab", -1}, {"aab", 1}, {"aba", 2}, {"baa", 2}, {"aaa", 1},
		{"aabc", 1}, {"abac", 2}, {"abca", 3}, {"baac", 2}, {"baca", 3}, {"bcaa", 3}, {"abab", 2}, {"abba", 2}, {"aabb", 1}, {"abcd", -1},
		{"aaabc", 1}, {"abaca", 2}, {"bcaaa", 3}, {"bacaa", 3}, {"abcba", 3}, {"abcdd", 4}, {"abcda", 4}, {"abcde", -1}, {"aaaaa", 1},
	} {
		for kind := range 5 {
			l := named(strings.Split(r.names, "")...)
			for i := range l {
				if kind > 0 {
					l[i].Kind = kind
				}
			}
			x := Of(l)
			for _, s := range strings.Split(r.names, "") {
				i := strings.Index(r.names, s)
				found(t, x, s, i, l[i].Kind)
			}
			notFound(t, x, "f")
			isTwice(t, r.twice, l...)
		}
	}
}

// 11.1: the Kind is that of the first one, be the others of which kinds they may.
func TestKindOfFirst(t *testing.T) {
	kinds := []int{0, 1, 2, 3, 4, 5, -1, math.MaxInt, math.MinInt}
	for _, a := range kinds {
		for _, b := range kinds {
			for _, c := range kinds {
				found(t, Of([]api.Decl{decl(a, "P"), decl(b, "P"), decl(c, "P")}), "P", 0, a)
				found(t, Of([]api.Decl{decl(a, "Q"), decl(b, "P"), decl(c, "P")}), "P", 1, b)
				found(t, Of([]api.Decl{decl(a, "Q"), decl(b, "Q"), decl(c, "P")}), "P", 2, c)
			}
		}
	}
}

// 11.1, 11.2: kinds that there are not are told as they stand; a name of Kind 0 is one of something.
func TestWrongKinds(t *testing.T) {
	for _, kind := range []int{0, -1, -4, 5, 6, 255, 256 + api.DService, 1<<32 + api.DService, math.MaxInt32, math.MinInt32, math.MaxInt, math.MinInt} {
		d := service("S", method(1, "get", "P", "R"))
		d.Kind = kind
		d.Fields = []api.Field{field(3, "a")}
		l := []api.Decl{decl(api.DStruct, "P"), d}
		found(t, Of(l), "S", 1, kind)
		isField(t, d, 3, 0)
		noMethod(t, l, "S", "get", "a", "")
		isTwice(t, -1, l...)
		isTwice(t, 2, l[0], d, d)
	}
}

// 11.1, 11.2: an empty name is a name as the others.
func TestEmptyName(t *testing.T) {
	for i := range 4 {
		l := named("a", "b", "c", "d")
		l[i].Name = ""
		found(t, Of(l), "", i, i+1)
		isTwice(t, -1, l...)
	}
	isTwice(t, 1, named("", "", "a")...)
	isTwice(t, 2, named("", "a", "")...)
	l := []api.Decl{service("", method(1, "", "", ""), oneWay(2, "a", "", "b")), service("S", method(3, "", "c", "d"))}
	isMethod(t, l, "", method(1, "", "", ""))
	isMethod(t, l, "", oneWay(2, "a", "", "b"))
	isMethod(t, l, "S", method(3, "", "c", "d"))
	noMethod(t, l, "S", "a")
	held(t, l)
}

// 11.1, 11.2: names that differ in one byte, or by what is ahead of them or behind them, are others.
func TestNearNames(t *testing.T) {
	for _, s := range []string{"P", "ab", "get", "Abc_9", "abcdefghijklmnop", "a\x00", "\xff\xfe", "\u20ac", " ", strings.Repeat("x", 5000)} {
		if len(s) > 100 {
			notFound(t, Of(named(s)), s[1:])
			notFound(t, Of(named(s)), s+"x")
			continue
		}
		l := []api.Decl{service("other"), service(s, method(1, s, s, s))}
		x := Of(l)
		found(t, x, s, 1, api.DService)
		isMethod(t, l, s, method(1, s, s, s))
		for _, o := range near(s) {
			if o != s {
				notFound(t, x, o)
				noMethod(t, l, o, s)
				noMethod(t, l, s, o)
				isTwice(t, -1, append(l, service(o))...)
			}
		}
		isTwice(t, 2, append(l, service(s))...)
	}
}

// 11.2: all tags that the language knows, at each place of several lengths, and those beyond all bounds.
func TestTags(t *testing.T) {
	beyond := []int{-1, -2, -255, 256, 9999, 10000, 1 << 31, 1 << 32, 1<<32 + 1, math.MaxInt32, math.MinInt32, math.MaxInt, math.MinInt}
	for kind := range 6 {
		for tag := range 300 {
			isField(t, decl(kind, "P", field(tag, "a")), tag, 0)
			isField(t, decl(kind, "P", field(-tag-1, "a"), field(tag, "b")), tag, 1)
			noField(t, decl(kind, "P", field(tag+1, "a"), field(tag-1, "a"), field(-tag-7, "a"), field(tag+256, "a")), tag)
		}
		noField(t, decl(kind, "P", field(1, "a")), beyond...)
		for _, tag := range beyond {
			d := decl(kind, "P", field(1, "a"), field(tag, "b"), field(2, "c"))
			isField(t, d, tag, 1)
			isField(t, d, 1, 0)
			isField(t, d, 2, 2)
			held(t, []api.Decl{d})
		}
	}
}

// 11.2: of a tag that stands twice and three times the first place.
func TestTagsTwice(t *testing.T) {
	for _, tag := range []int{0, 1, 7, -1, 9999, math.MinInt} {
		for n := 1; n <= 20; n++ {
			for i := range n {
				for j := i; j < n; j++ {
					l := make([]api.Field, n)
					for k := range l {
						l[k] = field(100+k, "a")
					}
					l[i].Tag, l[j].Tag, l[n-1].Tag = tag, tag, tag
					isField(t, decl(api.DStruct, "P", l...), tag, i)
				}
			}
		}
	}
}

// 11.2: a declaration without fields has no tag; its Methods' tags are no fields'.
func TestNoFields(t *testing.T) {
	for kind := range 6 {
		for _, d := range []api.Decl{decl(kind, "P"), {Kind: kind, Fields: []api.Field{}}, {Kind: kind, Fields: named("a")[0].Fields[:0]}, {Kind: kind, Methods: []api.Method{method(1, "a", "b", "c"), {}}}} {
			noField(t, d, 0, 1, -1, 2, 255, math.MaxInt)
		}
	}
}

// 11.2: of a method's name that stands twice and three times the first method, whole.
func TestMethodsTwice(t *testing.T) {
	for n := 1; n <= 20; n++ {
		for i := range n {
			for j := i; j < n; j++ {
				var l []api.Method
				for k := range n {
					s := strconv.Itoa(k)
					l = append(l, api.Method{Tag: 3 * k, Name: "m" + s, In: "In" + s, Out: "Out" + s, OneWay: k%2 == 1})
				}
				l[i].Name, l[j].Name, l[n-1].Name = "get", "get", "get"
				isMethod(t, []api.Decl{decl(api.DEnum, "E"), service("S", l...), service("S")}, "S", l[i])
			}
		}
	}
}

// 11.2: the whole method is told, each field of it with each of some values.
func TestWholeMethods(t *testing.T) {
	for _, tag := range []int{0, 1, -1, 255, 256, 9999, 10000, math.MaxInt, math.MinInt} {
		for _, in := range []string{"", "P", "get", "\xff\x00", strings.Repeat("a", 300)} {
			for _, out := range []string{"", "P", "R", "In", strings.Repeat("b", 300)} {
				for _, way := range []bool{false, true} {
					m := api.Method{Tag: tag, Name: "get", In: in, Out: out, OneWay: way}
					isMethod(t, []api.Decl{service("S", oneWay(5, "a", "b", "c"), m, method(tag, "d", "e", "f"))}, "S", m)
				}
			}
		}
	}
}

// 11.2: a method of another service is none of this one, be it ahead or behind, of another name or of the same.
func TestOtherServices(t *testing.T) {
	a, b := method(1, "get", "P", "R"), oneWay(1, "put", "R", "P")
	l := []api.Decl{service("S", a), service("T", b), service("U"), service("S", b), service("U", a, b)}
	isMethod(t, l, "S", a)
	isMethod(t, l, "T", b)
	noMethod(t, l, "S", "put")
	noMethod(t, l, "T", "get")
	noMethod(t, l, "U", "get", "put")
	noMethod(t, l, "V", "get", "put")
	isTwice(t, 3, l...)
}

// 11.2: a declaration that is no service has no methods, though it has Methods; if it is the first of its name, a service behind it has none, either.
func TestNoServices(t *testing.T) {
	m := method(1, "get", "P", "R")
	for _, kind := range []int{0, 1, 2, 3, 5, -4, math.MaxInt} {
		d := api.Decl{Kind: kind, Name: "S", Fields: []api.Field{field(1, "get")}, Methods: []api.Method{m}}
		noMethod(t, []api.Decl{d}, "S", "get", "")
		noMethod(t, []api.Decl{d, service("S", m)}, "S", "get", "")
		noMethod(t, []api.Decl{decl(kind, "S"), service("S", m)}, "S", "get", "")
		noMethod(t, []api.Decl{service("T", m), d, service("S", m)}, "S", "get", "")
		isMethod(t, []api.Decl{service("S", m), d}, "S", m)
		isTwice(t, 1, d, service("S", m))
	}
}

// 11.2: a service's Fields are no methods, and hinder none.
func TestServicesFields(t *testing.T) {
	d := service("S", method(1, "get", "P", "R"))
	d.Fields = []api.Field{field(4, "put"), field(1, "get")}
	isMethod(t, []api.Decl{d}, "S", d.Methods[0])
	noMethod(t, []api.Decl{d}, "S", "put")
	isField(t, d, 4, 0)
	isField(t, d, 1, 1)
	held(t, []api.Decl{d})
}

// shorts calls f with all lists of up to n declarations of a few names and kinds.
func shorts(n int, l []api.Decl, f func(l []api.Decl)) {
	f(l)
	if len(l) == n {
		return
	}
	for _, name := range []string{"", "a", "b"} {
		for _, kind := range []int{0, api.DStruct, api.DService} {
			d := api.Decl{Kind: kind, Name: name, Methods: []api.Method{method(len(l), "get", name, "a")}}
			shorts(n, append(l[:len(l):len(l)], d), f)
		}
	}
}

// 11.1 to 11.3: all lists of up to four declarations of a few names and kinds.
func TestAllShort(t *testing.T) {
	shorts(4, nil, func(l []api.Decl) { held(t, l) })
}

// 11.3: if no name stands twice, each leads to its own place; with one name in another's place there is one that does not.
func TestOwnPlaces(t *testing.T) {
	for n := range 20 {
		var l []api.Decl
		for i := range n {
			l = append(l, decl(i%4+1, "n"+strconv.Itoa(i*7)))
		}
		x := Of(l)
		for i, d := range l {
			found(t, x, d.Name, i, d.Kind)
		}
		isTwice(t, -1, l...)
		for i := range n {
			for j := range i {
				k := slices.Clone(l)
				k[i].Name = k[j].Name
				if at, ok := Of(k).Find(k[i].Name); at != j || !ok {
					t.Fatalf("Find(%q) = %d, %v, not %d, true", k[i].Name, at, ok, j)
				}
				isTwice(t, i, k...)
			}
		}
	}
}

// R1: many declarations, fields and methods.
func TestMany(t *testing.T) {
	const n = 70000
	l, fields, methods := make([]api.Decl, n), make([]api.Field, n), make([]api.Method, n)
	for i := range n {
		s := strconv.Itoa(i)
		l[i], fields[i], methods[i] = decl(i, s), field(i-n/2, s), method(i, s, s, s)
	}
	l[n-1] = service("S", methods...)
	x := Of(l)
	for i, d := range l {
		found(t, x, d.Name, i, d.Kind)
	}
	isMethod(t, l, "S", methods[n-1])
	noMethod(t, l, "S", "S", strconv.Itoa(n))
	isField(t, decl(api.DStruct, "P", fields...), n-1-n/2, n-1)
	noField(t, decl(api.DStruct, "P", fields...), n)
	if Twice(l) != -1 || Twice(append(l, decl(1, "S"))) != n || Twice(append(l, l...)) != n {
		t.Fatal("twice")
	}
}

// some are declarations by chance, of a few names, tags and kinds.
func some(r *rand.Rand) []api.Decl {
	name := func() string { return []string{"", "a", "b", "get", "S", "T", "abcdefghijklmnop"}[r.Intn(7)] }
	l := make([]api.Decl, r.Intn(9))
	for i := range l {
		l[i] = decl(r.Intn(6), name())
		if r.Intn(2) == 0 {
			l[i].Kind = api.DService
		}
		for range r.Intn(6) {
			l[i].Fields = append(l[i].Fields, field(r.Intn(7)-1, name()))
			l[i].Methods = append(l[i].Methods, api.Method{Tag: r.Intn(7) - 1, Name: name(), In: name(), Out: name(), OneWay: r.Intn(2) == 0})
		}
	}
	return l
}

// 11.1 to 11.3: declarations by chance.
func TestByChance(t *testing.T) {
	r := rand.New(rand.NewSource(11))
	for range 1000 {
		held(t, some(r))
	}
}

// R4: what lies behind a list's end is not found, and stays as it was.
func TestBehindEnds(t *testing.T) {
	d := service("S", method(1, "get", "P", "R"), method(2, "put", "P", "R"))
	d.Fields = []api.Field{field(1, "a"), field(2, "b")}
	d.Methods, d.Fields = d.Methods[:1], d.Fields[:1]
	l := []api.Decl{d, decl(api.DEnum, "E"), decl(api.DUnion, "S"), service("T", method(1, "get", "P", "R"))}[:2]
	x := Of(l)
	found(t, x, "S", 0, api.DService)
	notFound(t, x, "T")
	noMethod(t, l, "T", "get")
	noMethod(t, l, "S", "put")
	noField(t, d, 2)
	isTwice(t, -1, l...)
}

// changed are ways to change a list of declarations that was handed in.
func changed(l []api.Decl) []func() {
	return []func(){
		func() { slices.Reverse(l) },
		func() { l[0].Name, l[1].Name = "Z", "P" },
		func() { l[2].Kind, l[3].Kind = api.DUnion, 0 },
		func() { l[0] = decl(api.DEnum, "E") },
		func() { clear(l) },
	}
}

// 11.1, R4: a table answers as ahead when the list that it was made of is changed behind that; what is asked of the list itself does not.
func TestListChanged(t *testing.T) {
	for n := range changed(nil) {
		l := parsed(t, schemaText)
		was := wholeDecls(l)[:len(l)]
		x := Of(l)
		changed(l)[n]()
		for _, name := range []string{"P", "Q", "E", "S", "R", "T", "Z", ""} {
			heldName(t, x, was, name)
			heldName(t, Of(l), l, name)
			heldMethods(t, l, name, []string{"get", "put", "del", ""})
		}
		heldTwice(t, x, was)
	}
}

// R5: asked again, and whatever was asked ahead or of other tables, each call has the same answer.
func TestAgain(t *testing.T) {
	l := parsed(t, schemaText)
	other := named("S", "Q", "P", "Z")
	x, y := Of(l), Of(other)
	for range 50 {
		for _, name := range []string{"P", "Z", "S", "", "Q", "T", "E", "R"} {
			heldName(t, x, l, name)
			heldName(t, y, other, name)
			heldName(t, Of(l), l, name)
			heldMethods(t, l, name, []string{"get", "put", "del", ""})
			heldMethods(t, other, name, []string{"get"})
		}
		isTwice(t, -1, l...)
		isTwice(t, 2, l[0], l[1], l[0])
		isField(t, l[0], 5, 1)
		noField(t, l[0], 2)
	}
}

// R4: no name that was handed in is kept: what its bytes are behind that changes no table.
func TestNamesNotKept(t *testing.T) {
	b, c := []byte("abc"), []byte("S")
	x := Of([]api.Decl{decl(api.DStruct, unsafe.String(&b[0], len(b))), service(unsafe.String(&c[0], 1))})
	found(t, x, "abc", 0, api.DStruct)
	copy(b, "xyz")
	c[0] = 'T'
	found(t, x, "abc", 0, api.DStruct)
	found(t, x, "S", 1, api.DService)
	notFound(t, x, "xyz")
	notFound(t, x, "T")
}

// shared tells whether two texts have bytes in common.
func shared(a, b string) bool {
	x, y := uintptr(unsafe.Pointer(unsafe.StringData(a))), uintptr(unsafe.Pointer(unsafe.StringData(b)))
	return len(a) > 0 && len(b) > 0 && x < y+uintptr(len(b)) && y < x+uintptr(len(a))
}

// R4: a method that is told shares no memory with what was handed in, nor with what was told at another time.
func TestOwnMemory(t *testing.T) {
	l := []api.Decl{service("S", method(1, strings.Clone("get"), strings.Clone("Point"), strings.Clone("Row")))}
	m := l[0].Methods[0]
	a, _ := Method(l, "S", "get")
	b, _ := Method(l, "S", "get")
	told := []string{a.Name, a.In, a.Out, b.Name, b.In, b.Out}
	for i, s := range told {
		for _, o := range append(told[:i:i], m.Name, m.In, m.Out) {
			if shared(s, o) {
				t.Errorf("%q and %q share memory", s, o)
			}
		}
	}
}
