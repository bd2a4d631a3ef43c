package show

import (
	"math"
	"math/rand"
	"slices"
	"strconv"
	"strings"
	"testing"
	"unsafe"

	"concourse/api"
	"concourse/parse"
)

// The types that a word alone tells, in short.
var (
	tBool  = api.Type{Kind: api.TBool}
	tInt   = api.Type{Kind: api.TInt}
	tUint  = api.Type{Kind: api.TUint}
	tText  = api.Type{Kind: api.TText}
	tBytes = api.Type{Kind: api.TBytes}
)

func named(s string) api.Type         { return api.Type{Kind: api.TNamed, Name: s} }
func list(x api.Type) api.Type        { return api.Type{Kind: api.TList, Of: []api.Type{x}} }
func table(k, v api.Type) api.Type    { return api.Type{Kind: api.TMap, Of: []api.Type{k, v}} }
func opt(x api.Type) api.Type         { return api.Type{Kind: api.TOpt, Of: []api.Type{x}} }
func value(n int, s string) api.Field { return api.Field{Tag: n, Name: s} }

func field(n int, s string, x api.Type) api.Field { return api.Field{Tag: n, Name: s, Type: x} }

func method(n int, name, in, out string) api.Method {
	return api.Method{Tag: n, Name: name, In: in, Out: out}
}

func oneWay(n int, name, in, out string) api.Method {
	return api.Method{Tag: n, Name: name, In: in, Out: out, OneWay: true}
}

func decl(kind int, name string, l ...api.Field) api.Decl {
	return api.Decl{Kind: kind, Name: name, Fields: l}
}

func service(name string, l ...api.Method) api.Decl {
	return api.Decl{Kind: api.DService, Name: name, Methods: l}
}

// enum is the least declaration there is.
func enum() api.Decl {
	return decl(api.DEnum, "E")
}

// times are n of something.
func times[T any](n int, x T) []T {
	return slices.Repeat([]T{x}, n)
}

// tells asks whether declarations' text is just this one.
func tells(t *testing.T, want string, l ...api.Decl) {
	t.Helper()
	if s, e := Text(l); s != want || e != api.OK {
		t.Fatalf("Text(%v) = %.300q, %v, not %.300q", l, s, e, want)
	}
	held(t, l)
}

// wrong asks whether declarations have just this error, and no text.
func wrong(t *testing.T, want api.Errno, l ...api.Decl) {
	t.Helper()
	if s, e := Text(l); s != "" || e != want {
		t.Fatalf("Text(%v) = %.300q, %v, not %v", l, s, e, want)
	}
	held(t, l)
}

// tellsType asks whether a type's text is just this one, wherever the type stands.
func tellsType(t *testing.T, want string, x api.Type) {
	t.Helper()
	if s, e := Type(x); s != want || e != api.OK {
		t.Fatalf("Type(%v) = %.300q, %v, not %.300q", x, s, e, want)
	}
	d := withType(x)
	tells(t, "struct P { 1 a: "+want+"; }\nunion Q { 1 a: int; 2 b: "+want+"; }\n", d...)
	heldType(t, x)
}

// wrongType asks whether a type may not be told, wherever it stands.
func wrongType(t *testing.T, x api.Type) {
	t.Helper()
	if s, e := Type(x); s != "" || e != api.ErrForm {
		t.Fatalf("Type(%v) = %.300q, %v", x, s, e)
	}
	for _, d := range withType(x) {
		wrong(t, api.ErrForm, d)
		wrong(t, api.ErrForm, enum(), d, enum())
	}
	heldType(t, x)
}

// The chapter's example.
func TestExample(t *testing.T) {
	tells(t, "enum E { 0 A; }\n", decl(api.DEnum, "E", value(0, "A")))
}

// schema are declarations of all kinds, with all kinds of types and of methods.
func schema() []api.Decl {
	return []api.Decl{
		decl(api.DStruct, "P", field(1, "x", table(tText, list(opt(tInt)))), field(2, "y", opt(named("Q"))), field(3, "z", tBool), field(4, "b", tBytes), field(0, "u", opt(tUint))),
		decl(api.DUnion, "Q", field(1, "a", opt(list(list(named("P")))))),
		decl(api.DEnum, "E", value(0, "A"), value(7, "B"), value(9999, "C_1")),
		decl(api.DStruct, "Z"),
		service("S", method(1, "get", "P", "Q"), oneWay(20, "put", "Z", "P")),
	}
}

const schemaText = "struct P { 1 x: map<text,list<int?>>; 2 y: Q?; 3 z: bool; 4 b: bytes; 0 u: uint?; }\n" +
	"union Q { 1 a: list<list<P>>?; }\n" +
	"enum E { 0 A; 7 B; 9999 C_1; }\n" +
	"struct Z { }\n" +
	"service S { 1 get(P): Q; oneway 20 put(Z): P; }\n"

// 10.1: a schema's text, written out.
func TestSchema(t *testing.T) {
	tells(t, schemaText, schema()...)
}

// 10.1: no declarations at all have an empty text, and no error.
func TestNothing(t *testing.T) {
	tells(t, "")
	tells(t, "", []api.Decl{}...)
	tells(t, "", schema()[:0]...)
}

// 10.1: each kind of declaration, without rows, with one, and with some.
func TestKinds(t *testing.T) {
	tells(t, "struct P { }\n", decl(api.DStruct, "P"))
	tells(t, "union P { }\n", decl(api.DUnion, "P"))
	tells(t, "enum P { }\n", decl(api.DEnum, "P"))
	tells(t, "service P { }\n", service("P"))
	tells(t, "struct P { 1 a: int; }\n", decl(api.DStruct, "P", field(1, "a", tInt)))
	tells(t, "union P { 1 a: int; }\n", decl(api.DUnion, "P", field(1, "a", tInt)))
	tells(t, "enum P { 1 a; }\n", decl(api.DEnum, "P", value(1, "a")))
	tells(t, "service P { 1 a(B): C; }\n", service("P", method(1, "a", "B", "C")))
	tells(t, "service P { oneway 1 a(B): C; }\n", service("P", oneWay(1, "a", "B", "C")))
	tells(t, "struct P { 2 b: Q; 10 a: text?; 300 c: list<bool>; }\n", decl(api.DStruct, "P", field(2, "b", named("Q")), field(10, "a", opt(tText)), field(300, "c", list(tBool))))
	tells(t, "union P { 2 b: Q; 10 a: text?; 300 c: list<bool>; }\n", decl(api.DUnion, "P", field(2, "b", named("Q")), field(10, "a", opt(tText)), field(300, "c", list(tBool))))
	tells(t, "enum P { 2 b; 10 a; 0 c; }\n", decl(api.DEnum, "P", value(2, "b"), value(10, "a"), value(0, "c")))
	tells(t, "service P { oneway 3 a(B): C; 3 b(C): B; oneway 0 d(D): D; }\n", service("P", oneWay(3, "a", "B", "C"), method(3, "b", "C", "B"), oneWay(0, "d", "D", "D")))
	tells(t, "service P { 3 a(B): C; oneway 3 b(C): B; 0 d(D): D; }\n", service("P", method(3, "a", "B", "C"), oneWay(3, "b", "C", "B"), method(0, "d", "D", "D")))
}

// 10.1: several declarations, of each two kinds: in their order, a line's end behind each.
func TestSeveral(t *testing.T) {
	texts := []string{"struct A { 1 a: int; }\n", "union A { }\n", "enum B { 0 X; 1 Y; }\n", "service S { 1 a(B): C; }\n", "struct B { }\n", "service A { oneway 1 a(B): C; }\n"}
	l := []api.Decl{decl(api.DStruct, "A", field(1, "a", tInt)), decl(api.DUnion, "A"), decl(api.DEnum, "B", value(0, "X"), value(1, "Y")), service("S", method(1, "a", "B", "C")),
		decl(api.DStruct, "B"), service("A", oneWay(1, "a", "B", "C"))}
	for i := range l {
		for j := range l {
			tells(t, texts[i]+texts[j], l[i], l[j])
			for k := range l {
				tells(t, texts[i]+texts[j]+texts[k], l[i], l[j], l[k])
			}
		}
	}
}

// 10.1: what only later layers find wrong may be told: names and tags told twice, tags that fall, tags beyond MaxTag, names of nothing.
func TestMoreThanSchemas(t *testing.T) {
	tells(t, "struct P { 2 a: P; 2 a: P; 1 b: Q; 0 c: map<P,E?>; 256 d: S; }\nenum P { 1 A; 1 A; 0 B; }\n",
		decl(api.DStruct, "P", field(2, "a", named("P")), field(2, "a", named("P")), field(1, "b", named("Q")), field(0, "c", table(named("P"), opt(named("E")))), field(256, "d", named("S"))),
		decl(api.DEnum, "P", value(1, "A"), value(1, "A"), value(0, "B")))
	tells(t, "service P { 7 a(P): a; oneway 7 a(P): a; }\nservice P { }\n", service("P", method(7, "a", "P", "a"), oneWay(7, "a", "P", "a")), service("P"))
}

// 10.1: where a declaration stood is not told, and may be anywhere.
func TestPlaces(t *testing.T) {
	for _, at := range []int{0, 1, -1, 9999, math.MaxInt, math.MinInt} {
		l := schema()
		for i := range l {
			l[i].At = at - i
		}
		tells(t, schemaText, l...)
	}
}

// R3: a list that is empty is the same, be it nil or of length 0.
func TestEmptyLists(t *testing.T) {
	none, no, nothing := []api.Type{}, []api.Field{}, []api.Method{}
	for _, x := range []api.Type{tBool, tInt, tUint, tText, tBytes, named("Q")} {
		want := naiveType(x)
		x.Of = none
		tellsType(t, want, x)
		x.Of = schema()[0].Fields[0].Type.Of[:0]
		tellsType(t, want, x)
	}
	tells(t, "struct P { }\n", api.Decl{Kind: api.DStruct, Name: "P", Fields: no, Methods: nothing})
	tells(t, "union P { 1 a: int; }\n", api.Decl{Kind: api.DUnion, Name: "P", Fields: []api.Field{field(1, "a", api.Type{Kind: api.TInt, Of: none})}, Methods: nothing})
	tells(t, "enum P { }\n", api.Decl{Kind: api.DEnum, Name: "P", Fields: no, Methods: nothing})
	tells(t, "enum P { 1 a; }\n", api.Decl{Kind: api.DEnum, Name: "P", Fields: []api.Field{field(1, "a", api.Type{Of: none})}, Methods: schema()[4].Methods[:0]})
	tells(t, "service P { }\n", api.Decl{Kind: api.DService, Name: "P", Fields: no, Methods: nothing})
	tells(t, "service P { }\n", api.Decl{Kind: api.DService, Name: "P", Fields: schema()[0].Fields[:0]})
}

// 10.1: each kind of type, types within types, optional ones or not.
func TestTypes(t *testing.T) {
	rows := []struct {
		s string
		x api.Type
	}{
		{"bool", tBool}, {"int", tInt}, {"uint", tUint}, {"text", tText}, {"bytes", tBytes}, {"Q", named("Q")}, {"P", named("P")},
		{"Int", named("Int")}, {"ints", named("ints")}, {"list_", named("list_")}, {"abcdefghijklmnop", named("abcdefghijklmnop")},
		{"list<int>", list(tInt)}, {"list<Q>", list(named("Q"))}, {"map<text,int>", table(tText, tInt)}, {"map<int,text>", table(tInt, tText)}, {"map<A,B>", table(named("A"), named("B"))},
		{"bool?", opt(tBool)}, {"int?", opt(tInt)}, {"uint?", opt(tUint)}, {"text?", opt(tText)}, {"bytes?", opt(tBytes)}, {"Q?", opt(named("Q"))},
		{"list<int>?", opt(list(tInt))}, {"list<int?>", list(opt(tInt))}, {"list<int?>?", opt(list(opt(tInt)))},
		{"map<text,int>?", opt(table(tText, tInt))}, {"map<text?,int>", table(opt(tText), tInt)}, {"map<text,int?>", table(tText, opt(tInt))}, {"map<text?,int?>?", opt(table(opt(tText), opt(tInt)))},
		{"list<list<list<Q>>>", list(list(list(named("Q"))))},
		{"list<list<Q>?>", list(opt(list(named("Q"))))},
		{"map<list<int>,map<bool,bytes>>", table(list(tInt), table(tBool, tBytes))},
		{"map<map<int,uint>,list<map<A,B>?>>?", opt(table(table(tInt, tUint), list(opt(table(named("A"), named("B"))))))},
		{"list<map<list<int>?,Q?>>", list(table(opt(list(tInt)), opt(named("Q"))))},
	}
	for _, r := range rows {
		tellsType(t, r.s, r.x)
	}
}

// allTypes are the types that have no more than n within one another, of a few, and their texts.
func allTypes(n int) ([]string, []api.Type) {
	texts := []string{"bool", "int", "Q"}
	l := []api.Type{tBool, tInt, named("Q")}
	if n > 0 {
		s, k := allTypes(n - 1)
		for i := range s {
			texts, l = append(texts, "list<"+s[i]+">"), append(l, list(k[i]))
			for j := range s {
				texts, l = append(texts, "map<"+s[i]+","+s[j]+">"), append(l, table(k[i], k[j]))
			}
		}
	}
	for i := range texts {
		texts, l = append(texts, texts[i]+"?"), append(l, opt(l[i]))
	}
	return texts, l
}

// 10.1: all types of a few with one, and many with two within one another.
func TestAllTypes(t *testing.T) {
	texts, l := allTypes(2)
	for i := range texts {
		if i < 200 || i%7 == 0 {
			tellsType(t, texts[i], l[i])
		}
	}
}

// 10.1: as many declarations as may be, and more: ErrLong.
func TestManyDecls(t *testing.T) {
	kinds := []struct {
		s string
		d api.Decl
	}{
		{"struct P { }\n", decl(api.DStruct, "P")}, {"union P { 1 a: Q?; }\n", decl(api.DUnion, "P", field(1, "a", opt(named("Q"))))},
		{"enum E { 1 a; }\n", decl(api.DEnum, "E", value(1, "a"))}, {"service S { 1 a(B): C; }\n", service("S", method(1, "a", "B", "C"))},
	}
	for _, x := range kinds {
		for n := range 17 {
			tells(t, strings.Repeat(x.s, n), times(n, x.d)...)
		}
		for _, n := range []int{17, 18, 32, 255, 256, 257, 70000} {
			wrong(t, api.ErrLong, times(n, x.d)...)
		}
	}
	b := ""
	var l []api.Decl
	for n := range 16 {
		b += kinds[n%4].s
		l = append(l, kinds[n%4].d)
	}
	tells(t, b, l...)
	wrong(t, api.ErrLong, append(l, l[0])...)
}

// faulty are declarations each of which has another thing for which it may not be told.
func faulty() []api.Decl {
	return []api.Decl{
		{}, decl(0, "P"), decl(5, "P"), decl(api.DStruct, ""), decl(api.DUnion, "int"), decl(api.DEnum, "a b"), service("9"),
		decl(api.DStruct, "P", field(-1, "a", tInt)), decl(api.DUnion, "P", field(10000, "a", tInt)), decl(api.DEnum, "P", value(1, "")), decl(api.DEnum, "P", field(1, "a", tInt)),
		decl(api.DStruct, "P", field(1, "a", api.Type{})), decl(api.DStruct, "P", field(1, "a", opt(opt(tInt)))), decl(api.DEnum, "P", times(17, value(1, "a"))...),
		decl(api.DService, "P", value(1, "a")), {Kind: api.DStruct, Name: "P", Methods: times(1, method(1, "a", "B", "C"))}, service("S", method(1, "a", "", "C")), service("S", times(17, method(1, "a", "B", "C"))...),
	}
}

// 10.1: one declaration that may not be told, wherever it stands, is ErrForm; among too many ones it is ErrLong, which is named first.
func TestOneOfMany(t *testing.T) {
	for _, x := range faulty() {
		wrong(t, api.ErrForm, x)
		for n := 1; n <= 16; n++ {
			for i := range n {
				l := times(n, enum())
				l[i] = x
				wrong(t, api.ErrForm, l...)
			}
		}
		for i := range 17 {
			l := times(17, enum())
			l[i] = x
			wrong(t, api.ErrLong, l...)
		}
		wrong(t, api.ErrForm, times(16, x)...)
		wrong(t, api.ErrLong, times(17, x)...)
		wrong(t, api.ErrLong, append(schema(), times(12, x)...)...)
	}
}

// 10.1: as many fields, values and methods as may be, and more: ErrForm.
func TestManyRows(t *testing.T) {
	for _, x := range []struct {
		s string
		d func(n int) api.Decl
	}{
		{"struct P { 1 a: int;", func(n int) api.Decl { return decl(api.DStruct, "P", times(n, field(1, "a", tInt))...) }},
		{"union P { 1 a: list<Q?>?;", func(n int) api.Decl {
			return decl(api.DUnion, "P", times(n, field(1, "a", opt(list(opt(named("Q"))))))...)
		}},
		{"enum P { 1 a;", func(n int) api.Decl { return decl(api.DEnum, "P", times(n, value(1, "a"))...) }},
		{"service P { 1 a(B): C;", func(n int) api.Decl { return service("P", times(n, method(1, "a", "B", "C"))...) }},
		{"service P { oneway 1 a(B): C;", func(n int) api.Decl { return service("P", times(n, oneWay(1, "a", "B", "C"))...) }},
	} {
		head, row, _ := strings.Cut(x.s, " {")
		for n := range 17 {
			tells(t, head+" {"+strings.Repeat(row, n)+" }\n", x.d(n))
		}
		for _, n := range []int{17, 18, 32, 255, 256, 257, 70000} {
			wrong(t, api.ErrForm, x.d(n))
			wrong(t, api.ErrForm, enum(), x.d(n))
		}
		// Each has its own rows: many of them, all in all, are not too many.
		full := head + " {" + strings.Repeat(row, 16) + " }\n"
		tells(t, strings.Repeat(full, 16), times(16, x.d(16))...)
		wrong(t, api.ErrForm, append(times(15, x.d(16)), x.d(17))...)
		wrong(t, api.ErrLong, append(times(16, x.d(16)), x.d(17))...)
	}
}

// 10.1: one row that may not be told, wherever it stands.
func TestOneRowOfMany(t *testing.T) {
	for n := 1; n <= 16; n++ {
		for i := range n {
			fields, values, methods := times(n, field(1, "a", tInt)), times(n, value(1, "a")), times(n, method(1, "a", "B", "C"))
			fields[i].Name, values[i].Tag, methods[i].Out = "int", -1, ""
			wrong(t, api.ErrForm, decl(api.DStruct, "P", fields...))
			wrong(t, api.ErrForm, decl(api.DUnion, "P", fields...))
			wrong(t, api.ErrForm, decl(api.DEnum, "P", values...))
			wrong(t, api.ErrForm, service("P", methods...))
		}
	}
}

// 10.1: no Fields of a service, no Methods of the others, be they as many as may be or more, and be there others or not.
func TestOthersRows(t *testing.T) {
	for _, n := range []int{1, 2, 16, 17, 1000} {
		for _, m := range []int{0, 1, 16} {
			for _, f := range []api.Field{{}, value(1, "a"), field(1, "a", tInt), field(-1, "int", opt(opt(tInt)))} {
				wrong(t, api.ErrForm, api.Decl{Kind: api.DService, Name: "S", Fields: times(n, f), Methods: times(m, method(1, "a", "B", "C"))})
			}
			for _, x := range []api.Method{{}, method(1, "a", "B", "C"), oneWay(1, "a", "B", "C")} {
				wrong(t, api.ErrForm, api.Decl{Kind: api.DStruct, Name: "S", Fields: times(m, field(1, "a", tInt)), Methods: times(n, x)})
				wrong(t, api.ErrForm, api.Decl{Kind: api.DUnion, Name: "S", Fields: times(m, field(1, "a", tInt)), Methods: times(n, x)})
				wrong(t, api.ErrForm, api.Decl{Kind: api.DEnum, Name: "S", Fields: times(m, value(1, "a")), Methods: times(n, x)})
			}
		}
	}
}

// withTag are declarations with a tag at each place where one stands, and their text.
func withTag(n int) ([]api.Decl, []string) {
	s := strconv.Itoa(n)
	return []api.Decl{
		decl(api.DStruct, "P", field(n, "a", tInt)), decl(api.DUnion, "P", field(1, "b", tInt), field(n, "a", opt(tText))), decl(api.DEnum, "P", value(n, "a")), decl(api.DEnum, "P", value(1, "b"), value(n, "a")),
		service("S", method(n, "a", "B", "C")), service("S", method(1, "b", "B", "C"), oneWay(n, "a", "B", "C")),
	}, []string{
		"struct P { " + s + " a: int; }\n", "union P { 1 b: int; " + s + " a: text?; }\n", "enum P { " + s + " a; }\n", "enum P { 1 b; " + s + " a; }\n",
		"service S { " + s + " a(B): C; }\n", "service S { 1 b(B): C; oneway " + s + " a(B): C; }\n",
	}
}

// 10.1: all tags that may be told, and those beyond.
func TestTags(t *testing.T) {
	for n := range 10000 {
		if n > 300 && n < 9700 && n%37 > 0 {
			continue
		}
		l, texts := withTag(n)
		for i, d := range l {
			tells(t, texts[i], d)
		}
	}
	for _, n := range []int{-1, -2, -9, -9999, 10000, 10001, 65536, 1 << 32, 1<<32 + 1, math.MinInt32, math.MaxInt32, math.MinInt, math.MaxInt} {
		l, _ := withTag(n)
		for _, d := range l {
			wrong(t, api.ErrForm, d)
			wrong(t, api.ErrForm, enum(), d, enum())
		}
	}
}

// withTypeName are types with a name at each place where one stands, and their texts.
func withTypeName(s string) ([]api.Type, []string) {
	x := named(s)
	return []api.Type{x, opt(x), list(x), list(opt(x)), table(x, tInt), table(tInt, x), opt(list(table(tInt, table(x, tInt))))},
		[]string{s, s + "?", "list<" + s + ">", "list<" + s + "?>", "map<" + s + ",int>", "map<int," + s + ">", "list<map<int,map<" + s + ",int>>>?"}
}

// withName are declarations with a name at each place where one stands, but in types, and their texts.
func withName(s string) ([]api.Decl, []string) {
	return []api.Decl{
		decl(api.DStruct, s), decl(api.DUnion, s), decl(api.DEnum, s), service(s), decl(api.DStruct, s, field(1, "a", tInt)), service(s, method(1, "a", "B", "C")),
		decl(api.DStruct, "P", field(1, s, tInt)), decl(api.DUnion, "P", field(1, s, tInt)), decl(api.DEnum, "P", value(1, s)), decl(api.DEnum, "P", value(1, "a"), value(2, s)),
		service("S", method(1, s, "B", "C")), service("S", method(1, "a", s, "C")), service("S", method(1, "a", "B", s)),
		service("S", oneWay(1, s, "B", "C")), service("S", oneWay(1, "a", s, "C")), service("S", oneWay(1, "a", "B", s)),
	}, []string{
		"struct " + s + " { }\n", "union " + s + " { }\n", "enum " + s + " { }\n", "service " + s + " { }\n", "struct " + s + " { 1 a: int; }\n", "service " + s + " { 1 a(B): C; }\n",
		"struct P { 1 " + s + ": int; }\n", "union P { 1 " + s + ": int; }\n", "enum P { 1 " + s + "; }\n", "enum P { 1 a; 2 " + s + "; }\n",
		"service S { 1 " + s + "(B): C; }\n", "service S { 1 a(" + s + "): C; }\n", "service S { 1 a(B): " + s + "; }\n",
		"service S { oneway 1 " + s + "(B): C; }\n", "service S { oneway 1 a(" + s + "): C; }\n", "service S { oneway 1 a(B): " + s + "; }\n",
	}
}

// rightName asks whether a name may stand at each place where one stands.
func rightName(t *testing.T, s string) {
	t.Helper()
	l, texts := withName(s)
	for i, d := range l {
		tells(t, texts[i], d)
	}
	types, texts := withTypeName(s)
	for i, x := range types {
		tellsType(t, texts[i], x)
	}
}

// wrongName asks whether a text is ErrForm at each place where a name stands.
func wrongName(t *testing.T, s string) {
	t.Helper()
	l, _ := withName(s)
	for _, d := range l {
		wrong(t, api.ErrForm, d)
	}
	types, _ := withTypeName(s)
	for _, x := range types {
		wrongType(t, x)
	}
}

// 10.1: names of one byte to as many as may be, at each place where a name stands; some of them look like words of the language.
func TestRightNames(t *testing.T) {
	for n := 1; n <= 16; n++ {
		rightName(t, strings.Repeat("x", n))
		rightName(t, "Z_23456789012345"[:n])
	}
	for _, s := range []string{"a", "z", "A", "Z", "a_", "A_9", "a__0", "Struct", "STRUCT", "structs", "struc", "union_", "Enum", "services", "one", "way", "oneWay", "oneway1", "Bool", "INT", "in", "ints", "uints", "txt", "byte", "Bytes", "lists", "map1", "ma", "opt", "string", "TNamed"} {
		rightName(t, s)
	}
}

// 10.1: texts that are no names, at each place where a name stands.
func TestWrongNames(t *testing.T) {
	for _, s := range []string{"", " ", "_", "_a", "1", "1a", "0", "9999", "a ", " a", "a b", "a-b", "a.b", "a\n", "\na", "a\x00", "\x00", "a//", "//", "é", "aé", "ä", "a\xff", "\xff", "\u212a", "\u00aa",
		"abcdefghijklmnopq", "z_234567890123456", strings.Repeat("x", 18), strings.Repeat("x", 255), strings.Repeat("x", 256), strings.Repeat("x", 272), strings.Repeat("x", 70000),
		"a{}enum b", "a; 2 b", "a:int", "a(B)", "a?", "list<a>", "a>", "a,b", "int?", "oneway ", " int", "E { } enum F"} {
		wrongName(t, s)
	}
	for _, s := range strings.Split("{}()<>:;,?", "") {
		wrongName(t, s)
		wrongName(t, "a"+s)
		wrongName(t, s+"a")
	}
}

// 10.1: the language's words are no names, at each place where a name stands.
func TestWordsAsNames(t *testing.T) {
	l := strings.Fields(languageWords)
	if len(l) != 12 {
		t.Fatal(l)
	}
	for _, s := range l {
		wrongName(t, s)
	}
}

// 10.1: each byte as a name, and as a name's second and last byte.
func TestBytesOfNames(t *testing.T) {
	for b := range 256 {
		c := string([]byte{byte(b)})
		for _, s := range []string{c, "a" + c, "abcdefghijklmno" + c} {
			if isName(s) {
				rightName(t, s)
			} else {
				wrongName(t, s)
			}
		}
	}
}

// 10.1: kinds of declarations that there are not.
func TestWrongKinds(t *testing.T) {
	for _, k := range []int{0, -1, -2, -4, 5, 6, 7, 9, 16, 255, 256, 257, 260, 1 << 32, 1<<32 + 1, math.MinInt, math.MaxInt} {
		wrong(t, api.ErrForm, decl(k, "P"))
		wrong(t, api.ErrForm, decl(k, "P", field(1, "a", tInt)))
		wrong(t, api.ErrForm, decl(k, "P", value(1, "a")))
		wrong(t, api.ErrForm, api.Decl{Kind: k, Name: "P", Methods: times(1, method(1, "a", "B", "C"))})
		wrong(t, api.ErrForm, enum(), decl(k, "P"))
	}
}

// around are types that have one within them, at each place where one stands.
func around(x api.Type) []api.Type {
	return []api.Type{x, list(x), table(x, tInt), table(tInt, x), list(list(x)), list(table(tInt, x)), table(list(x), tInt), opt(list(x)), opt(table(tText, x)), list(opt(list(x)))}
}

// 10.1: kinds of types that there are not, with types of theirs, names, or neither, wherever they stand.
func TestWrongTypeKinds(t *testing.T) {
	for _, k := range []int{0, -1, -5, -9, 10, 11, 16, 255, 256, 257, 265, 1 << 32, 1<<32 + 1, math.MinInt, math.MaxInt} {
		for n := range 4 {
			for _, s := range []string{"", "Q", "int"} {
				for _, x := range around(api.Type{Kind: k, Name: s, Of: times(n, tInt)}) {
					wrongType(t, x)
				}
				wrongType(t, opt(api.Type{Kind: k, Name: s, Of: times(n, tInt)}))
			}
		}
	}
}

// 10.1: each kind of type with each number of types, a name or none, wherever it stands.
func TestForms(t *testing.T) {
	of := map[int]int{api.TBool: 0, api.TInt: 0, api.TUint: 0, api.TText: 0, api.TBytes: 0, api.TNamed: 0, api.TList: 1, api.TMap: 2, api.TOpt: 1}
	for k := range of {
		for _, n := range []int{0, 1, 2, 3, 4, 16, 256, 257, 258} {
			for _, s := range []string{"", "Q", "int", "_"} {
				right := n == of[k] && (s == "Q") == (k == api.TNamed) && (s == "") != (k == api.TNamed)
				l := around(api.Type{Kind: k, Name: s, Of: times(n, tInt)})
				for _, x := range l {
					if right {
						tellsType(t, naiveType(x), x)
					} else {
						wrongType(t, x)
					}
				}
				if _, e := Type(opt(l[0])); (e == api.OK) != (right && k != api.TOpt) {
					t.Fatalf("%v: %v", opt(l[0]), e)
				}
				heldType(t, opt(l[0]))
			}
		}
	}
}

// 10.1: no TOpt of a TOpt, wherever they stand; but one may stand in a list or a map within another one.
func TestOptOfOpt(t *testing.T) {
	_, l := allTypes(1)
	for _, x := range l {
		if x.Kind == api.TOpt {
			for _, y := range around(opt(x)) {
				wrongType(t, y)
			}
			wrongType(t, opt(opt(x)))
			continue
		}
		for _, y := range around(opt(x)) {
			tellsType(t, naiveType(y), y)
		}
	}
	tellsType(t, "list<list<int?>?>?", opt(list(opt(list(opt(tInt))))))
	tellsType(t, "map<int?,map<int?,int?>?>?", opt(table(opt(tInt), opt(table(opt(tInt), opt(tInt))))))
	many := tInt
	for range 10000 {
		many = opt(many)
	}
	if s, e := Type(many); s != "" || e != api.ErrForm {
		t.Fatalf("%.300q, %v", s, e)
	}
}

// 10.1: of an enum's value the type is Type{}; what is no such type is ErrForm, and a field needs one.
func TestValuesTypes(t *testing.T) {
	for _, x := range []api.Type{tBool, tInt, tUint, tText, tBytes, named("Q"), list(tInt), table(tInt, tInt), opt(tInt), {Kind: 10}, {Kind: -1}, {Kind: 256}, {Name: "a"}, {Name: "int"}, {Name: " "}, {Of: times(1, api.Type{})}, {Of: times(2, tInt)}, {Name: "Q", Of: times(1, tInt)}} {
		wrong(t, api.ErrForm, decl(api.DEnum, "E", field(1, "a", x)))
		wrong(t, api.ErrForm, decl(api.DEnum, "E", value(1, "a"), field(2, "b", x)))
		wrong(t, api.ErrForm, decl(api.DEnum, "E", field(1, "a", x), value(2, "b")))
	}
	wrong(t, api.ErrForm, decl(api.DStruct, "P", value(1, "a")))
	wrong(t, api.ErrForm, decl(api.DUnion, "P", field(1, "a", tInt), value(2, "b")))
	wrongType(t, api.Type{})
}

// shell is something that a type stands in, one deeper.
type shell func(x api.Type) api.Type

func shells() []shell {
	return []shell{
		list,
		func(x api.Type) api.Type { return table(x, tInt) },
		func(x api.Type) api.Type { return table(tText, x) },
		func(x api.Type) api.Type { return list(opt(x)) },
		func(x api.Type) api.Type { return table(opt(x), opt(named("A"))) },
		func(x api.Type) api.Type { return table(list(tInt), x) },
	}
}

// deep asks whether types stand as deep as may be, and that those that stand deeper are ErrForm.
func deep(t *testing.T, which func(i int) shell) {
	t.Helper()
	for n := range 12 {
		for _, x := range []api.Type{tBool, named("Q"), list(tInt), table(tInt, tInt)} {
			own := min(len(x.Of), 1)
			for i := range n {
				x = which(i)(x)
			}
			for _, y := range []api.Type{x, opt(x)} {
				if s, e := Type(y); (e == api.OK) != (deepest(y, 0) <= 8) || (s == "") != (e == api.ErrForm) {
					t.Fatalf("Type(%v), %d deep: %.300q, %v", y, n+own, s, e)
				}
				heldType(t, y)
			}
		}
	}
}

// 10.1: types that stand as deep as may be, and deeper, by lists, by maps in either place, and by both, with and without TOpt.
func TestDeep(t *testing.T) {
	all := shells()
	for _, h := range all {
		deep(t, func(int) shell { return h })
	}
	for i := range all {
		for j := range all {
			deep(t, func(n int) shell { return all[(i+n*j)%len(all)] })
			deep(t, func(n int) shell {
				if n%2 > 0 {
					return all[i]
				}
				return all[j]
			})
		}
	}
}

// 10.1: how deep types stand, written out: a ? makes nothing deeper, and what stands beside is not counted.
func TestDeepTexts(t *testing.T) {
	lists := func(n int, s string) string { return strings.Repeat("list<", n) + s + strings.Repeat(">", n) }
	in := func(n int, x api.Type) api.Type {
		for range n {
			x = list(x)
		}
		return x
	}
	tellsType(t, lists(8, "int"), in(8, tInt))
	tellsType(t, lists(8, "int?"), in(8, opt(tInt)))
	tellsType(t, lists(8, "Q?")+"?", opt(in(8, opt(named("Q")))))
	wrongType(t, in(9, tInt))
	wrongType(t, in(9, opt(tInt)))
	wrongType(t, opt(in(9, tInt)))
	wrongType(t, in(8, list(tInt)))
	wrongType(t, in(8, opt(list(tInt))))
	tellsType(t, lists(7, "map<int,text?>"), in(7, table(tInt, opt(tText))))
	wrongType(t, in(8, table(tInt, tInt)))
	wrongType(t, in(7, table(list(tInt), tInt)))
	wrongType(t, in(7, table(tInt, list(tInt))))
	tellsType(t, "map<"+lists(7, "int")+","+lists(7, "Q")+">", table(in(7, tInt), in(7, named("Q"))))
	wrongType(t, table(in(8, tInt), tInt))
	wrongType(t, table(tInt, in(8, tInt)))
	s, x := "int?", opt(tInt)
	for range 8 {
		s, x = "list<"+s+">?", opt(list(x))
	}
	tellsType(t, s, x)
	wrongType(t, list(x))
	tells(t, "struct P { 1 a: "+s+"; 2 b: "+s+"; }\nunion Q { 1 a: "+s+"; }\n", decl(api.DStruct, "P", field(1, "a", x), field(2, "b", x)), decl(api.DUnion, "Q", field(1, "a", x)))
}

// 10.1: maps of maps in both places: as many types in one as may be, and one deeper.
func TestManyTypes(t *testing.T) {
	s, x := "abcdefghijklmnop", named("abcdefghijklmnop")
	for range 8 {
		s, x = "map<"+s+","+s+"?>", table(x, opt(x))
	}
	if len(s) < 4000 {
		t.Fatal(len(s))
	}
	tellsType(t, s, x)
	wrongType(t, table(x, x))
	wrongType(t, table(x, tInt))
	d := decl(api.DStruct, "P", times(16, field(9999, "a", x))...)
	want := "struct P {" + strings.Repeat(" 9999 a: "+s+";", 16) + " }\n"
	tells(t, strings.Repeat(want, 16), times(16, d)...)
}

// R1: types that have themselves within them, and types of many types, have their answer.
func TestEndless(t *testing.T) {
	for _, k := range []int{api.TList, api.TMap, api.TOpt, api.TNamed, api.TInt, 0, 10} {
		for _, n := range []int{1, 2, 3} {
			l := make([]api.Type, n)
			for i := range l {
				l[i] = api.Type{Kind: k, Of: l}
			}
			none(t, l[0])
			for _, o := range []int{api.TList, api.TMap, api.TOpt} {
				// Of two kinds by turns.
				m := make([]api.Type, map[int]int{api.TList: 1, api.TMap: 2, api.TOpt: 1}[o])
				for i := range l {
					l[i] = api.Type{Kind: o, Of: m}
				}
				for i := range m {
					m[i] = api.Type{Kind: k, Of: l}
				}
				none(t, l[0])
				none(t, m[0])
			}
		}
	}
	many := make([]api.Type, 1<<16)
	for i := range many {
		many[i] = api.Type{Kind: api.TList, Of: many}
	}
	none(t, many[0])
	none(t, list(many[0]))
	for _, k := range []int{api.TMap, api.TOpt, api.TInt, api.TNamed} {
		none(t, api.Type{Kind: k, Of: many})
	}
}

// none asks whether a type may not be told, also as a field, without going through it.
func none(t *testing.T, x api.Type) {
	t.Helper()
	if s, e := Type(x); s != "" || e != api.ErrForm {
		t.Fatalf("%.300q, %v", s, e)
	}
	for _, d := range withType(x) {
		if s, e := Text([]api.Decl{d}); s != "" || e != api.ErrForm {
			t.Fatalf("%.300q, %v", s, e)
		}
		if s, e := Text(times(17, d)); s != "" || e != api.ErrLong {
			t.Fatalf("%.300q, %v", s, e)
		}
	}
	if s, e := Text([]api.Decl{decl(api.DEnum, "E", field(1, "a", x))}); s != "" || e != api.ErrForm {
		t.Fatalf("%.300q, %v", s, e)
	}
}

// long are declarations whose text has so many bytes, from 688 to 1648: their names grow.
func long(n int) []api.Decl {
	var l []api.Decl
	left := n - 4*(12+16*10)
	for range 4 {
		d := decl(api.DUnion, "P", times(16, field(1, "a", tInt))...)
		for i := range d.Fields {
			more := min(left, 15)
			d.Fields[i].Name += strings.Repeat("x", more)
			left -= more
		}
		l = append(l, d)
	}
	return l
}

// 10.2: what is told is parsed as it was, but for places, if it is no longer than may be parsed; it is told in any case.
func TestLengths(t *testing.T) {
	for n := 688; n <= 1648; n++ {
		l := long(n)
		s, e := Text(l)
		if len(s) != n || e != api.OK {
			t.Fatalf("%d bytes, not %d; %v", len(s), n, e)
		}
		if parsedAs(s, l) != (n <= 1024) {
			t.Fatalf("%d bytes", n)
		}
		held(t, l)
	}
}

// 10.2: each row and declaration of texts that are too long is parsed as it was, alone.
func TestPieces(t *testing.T) {
	l := append(long(1648), schema()...)
	s, e := Text(l)
	lines := strings.SplitAfter(s, "\n")
	if e != api.OK || len(lines) != len(l)+1 || lines[len(l)] != "" {
		t.Fatalf("%q, %v", s, e)
	}
	for i, d := range l {
		if !parsedAs(lines[i], []api.Decl{d}) {
			t.Fatalf("%q", lines[i])
		}
	}
}

// 10.2: what was parsed is told, and parsed again as it was; the second text is the first one.
func TestParsedTold(t *testing.T) {
	for _, s := range []string{"", "//", "enum E{0 A;}", " struct\nP{1 a:map < text? , list<int ? > >?;2 b:Q;}//\nunion U{}", "service S{oneway 1 a(B):C;2 b ( C ) : D ;}enum E{}", schemaText} {
		l, f := parse.Parse(s)
		if f.Err != api.OK {
			t.Fatal(s, f)
		}
		u, e := Text(l)
		if e != api.OK || !parsedAs(u, l) {
			t.Fatalf("%q: %q, %v", s, u, e)
		}
		held(t, l)
	}
}

// 10.1, 10.2: one text is that of each declaration, one behind the other; a type's text is the same in a field.
func TestTogether(t *testing.T) {
	b := ""
	for i, d := range schema() {
		s, _ := Text([]api.Decl{d})
		b += s
		tells(t, b, schema()[:i+1]...)
	}
}

// chance makes declarations by chance; of wrong bits it makes one in so many, none if that is 0.
type chance struct {
	*rand.Rand
	wrong int
}

func (r chance) slip() bool {
	return r.wrong > 0 && r.Intn(r.wrong) == 0
}

func (r chance) one(l ...string) string {
	return l[r.Intn(len(l))]
}

func (r chance) name() string {
	if r.slip() {
		return r.one("", "int", "oneway", "list", "_a", "9", "a b", "abcdefghijklmnopq", "\xff", "a;")
	}
	return r.one("a", "P", "Q_1", "Struct", "abcdefghijklmnop", "ints", "x", "Oneway")
}

func (r chance) tag() int {
	if r.slip() {
		return []int{-1, 10000, math.MinInt, math.MaxInt}[r.Intn(4)]
	}
	return []int{0, 9999, r.Intn(10), r.Intn(10000)}[r.Intn(4)]
}

func (r chance) typeOf(room int) api.Type {
	x := r.base(room)
	if r.Intn(3) == 0 && (x.Kind != api.TOpt || r.slip()) {
		x = opt(x)
	}
	if r.slip() {
		switch r.Intn(4) {
		case 0:
			x.Kind = r.Intn(12) - 1
		case 1:
			x.Name = r.name()
		case 2:
			x.Of = x.Of[:r.Intn(len(x.Of)+1)]
		case 3:
			x.Of = append(x.Of, tInt)
		}
	}
	return x
}

func (r chance) base(room int) api.Type {
	switch n := r.Intn(14); {
	case n < 5 && (room > 0 || r.slip()):
		return list(r.typeOf(room - 1))
	case n < 7 && (room > 0 || r.slip()):
		return table(r.typeOf(room-1), r.typeOf(room-1))
	case n < 9:
		return named(r.name())
	}
	return api.Type{Kind: 1 + r.Intn(5)}
}

// many is how many rows there are: mostly few, sometimes all that may be.
func (r chance) many() int {
	switch {
	case r.slip():
		return 17
	case r.Intn(20) == 0:
		return 16
	}
	return r.Intn(5)
}

func (r chance) decl() api.Decl {
	d := api.Decl{Kind: 1 + r.Intn(4), Name: r.name(), At: r.Intn(2000) - 1000}
	kind := d.Kind
	if r.slip() {
		kind = 1 + r.Intn(4)
	}
	for range r.many() {
		switch kind {
		case api.DService:
			d.Methods = append(d.Methods, api.Method{Tag: r.tag(), Name: r.name(), In: r.name(), Out: r.name(), OneWay: r.Intn(2) == 0})
		case api.DEnum:
			d.Fields = append(d.Fields, value(r.tag(), r.name()))
		default:
			d.Fields = append(d.Fields, field(r.tag(), r.name(), r.typeOf(8)))
		}
	}
	if r.slip() {
		d.Kind = r.Intn(8) - 1
	}
	return d
}

func (r chance) decls() []api.Decl {
	var l []api.Decl
	for range r.many() {
		l = append(l, r.decl())
	}
	return l
}

// 10.1, 10.2: declarations by chance, which may be told.
func TestByChance(t *testing.T) {
	r := chance{rand.New(rand.NewSource(10)), 0}
	short := 0
	for range 8000 {
		l := r.decls()
		s, e := Text(l)
		if e != api.OK {
			t.Fatalf("%v: %v", l, e)
		}
		if len(s) <= 1024 {
			short++
		}
		held(t, l)
		heldType(t, r.typeOf(8))
	}
	if short < 4000 {
		t.Errorf("%d of the texts were short", short)
	}
}

// 10.1, 10.2: declarations by chance, of which some may not be told.
func TestWrongByChance(t *testing.T) {
	r := chance{rand.New(rand.NewSource(101)), 60}
	n := map[api.Errno]int{}
	for range 20000 {
		l := r.decls()
		_, e := Text(l)
		n[e]++
		held(t, l)
		heldType(t, r.typeOf(3))
	}
	if n[api.OK] < 4000 || n[api.ErrForm] < 4000 || n[api.ErrLong] < 100 {
		t.Errorf("%v", n)
	}
}

// within is a list in a longer one: something lies ahead of it, and behind its end.
func within[T any](l []T, other T) []T {
	k := append(append([]T{other}, l...), other, other)
	return k[1 : 1+len(l)]
}

func typeWithin(x api.Type) api.Type {
	var of []api.Type
	for _, y := range x.Of {
		of = append(of, typeWithin(y))
	}
	x.Of = within(of, api.Type{Kind: -7, Name: "behind", Of: times(1, tInt)})
	return x
}

// R4: what lies behind a list's end is not told, and stays as it was, as all that is handed in does.
func TestBehindEnds(t *testing.T) {
	l := schema()
	for i, d := range l {
		for j, f := range d.Fields {
			d.Fields[j].Type = typeWithin(f.Type)
		}
		l[i].Fields = within(d.Fields, field(-1, "behind", api.Type{Kind: -7}))
		l[i].Methods = within(d.Methods, method(-1, "behind", "", ""))
	}
	l = within(l, decl(-1, "behind"))
	tells(t, schemaText, l...)
	if s, e := Text(l); s != schemaText || e != api.OK {
		t.Fatal(s, e)
	}
	held(t, l)
	l[2].Name = ""
	held(t, l)
	heldType(t, l[0].Fields[0].Type)
	heldType(t, typeWithin(opt(opt(tInt))))
}

// R5: the same call has the same answer, whatever was asked ahead.
func TestAgain(t *testing.T) {
	l := schema()
	for _, x := range faulty() {
		if s, e := Text(l); s != schemaText || e != api.OK {
			t.Fatal(s, e)
		}
		if s, e := Type(l[0].Fields[0].Type); s != "map<text,list<int?>>" || e != api.OK {
			t.Fatal(s, e)
		}
		wrong(t, api.ErrForm, x)
		wrong(t, api.ErrLong, times(17, x)...)
	}
}

// apart asks whether two texts share no memory.
func apart(t *testing.T, a, b string) {
	t.Helper()
	x, y := uintptr(unsafe.Pointer(unsafe.StringData(a))), uintptr(unsafe.Pointer(unsafe.StringData(b)))
	if len(a) > 0 && len(b) > 0 && x < y+uintptr(len(b)) && y < x+uintptr(len(a)) {
		t.Errorf("%q and %q share memory", a, b)
	}
}

// R4: a text shares no memory with a name that was handed in, nor with the same text at another time.
func TestOwnMemory(t *testing.T) {
	for _, s := range []string{"Q", "abcdefghijklmnop"} {
		s = strings.Clone(s)
		for _, x := range []api.Type{named(s), opt(named(s)), list(named(s))} {
			a, _ := Type(x)
			b, _ := Type(x)
			apart(t, a, s)
			apart(t, a, b)
		}
		l := []api.Decl{decl(api.DStruct, s, field(1, s, named(s))), service(s, method(1, s, s, s))}
		a, _ := Text(l)
		b, _ := Text(l)
		apart(t, a, s)
		apart(t, a, b)
	}
	for _, x := range []api.Type{tBool, tInt, tUint, tText, tBytes} {
		a, _ := Type(x)
		b, _ := Type(x)
		apart(t, a, b)
	}
}

func FuzzText(f *testing.F) {
	for _, s := range []string{"", schemaText, "enum E { 0 A; }", "service S{oneway 1 a(B):C;}", "struct P{1 a:map<text?,list<int>>?;}"} {
		f.Add(s, "a", int64(1), 1)
	}
	f.Fuzz(func(t *testing.T, s, name string, seed int64, tag int) {
		l, g := parse.Parse(s)
		if g.Err == api.OK {
			u, e := Text(l)
			if e != api.OK || len(u) <= 1024 && !parsedAs(u, l) {
				t.Fatalf("%q: %q, %v", s, u, e)
			}
			held(t, l)
		}
		types, _ := withTypeName(name)
		for _, x := range types {
			heldType(t, x)
		}
		names, _ := withName(name)
		tags, _ := withTag(tag)
		for _, d := range append(names, tags...) {
			held(t, []api.Decl{d})
		}
		held(t, chance{rand.New(rand.NewSource(seed)), 30}.decls())
	})
}
