package parse

import (
	"math/rand"
	"reflect"
	"slices"
	"strconv"
	"strings"
	"testing"
	"unsafe"

	"concourse/api"
	"concourse/lex"
)

// noNils puts nil in the place of each list that is empty: it is the same.
func noNils(l []api.Decl) []api.Decl {
	var k []api.Decl
	for _, d := range l {
		var fields []api.Field
		for _, f := range d.Fields {
			f.Type = typeNoNils(f.Type)
			fields = append(fields, f)
		}
		d.Fields = fields
		d.Methods = append([]api.Method(nil), d.Methods...)
		k = append(k, d)
	}
	return k
}

func typeNoNils(x api.Type) api.Type {
	var of []api.Type
	for _, y := range x.Of {
		of = append(of, typeNoNils(y))
	}
	x.Of = of
	return x
}

// has asks whether a text has just these declarations, and no fault.
func has(t *testing.T, s string, want ...api.Decl) {
	t.Helper()
	if l, f := Parse(s); f != (api.Fault{}) || !reflect.DeepEqual(noNils(l), noNils(want)) {
		t.Fatalf("Parse(%.300q) = %v, %v, not %v", s, l, f, want)
	}
	held(t, s)
}

// wrong asks whether a text has just this fault, and no declarations.
func wrong(t *testing.T, s string, e api.Errno, at int) {
	t.Helper()
	if l, f := Parse(s); len(l) != 0 || f != (api.Fault{Err: e, At: at}) {
		t.Fatalf("Parse(%.300q) = %v, %v, not %v at %d", s, l, f, e, at)
	}
	held(t, s)
}

// The types, in short.
var (
	tBool  = api.Type{Kind: api.TBool}
	tInt   = api.Type{Kind: api.TInt}
	tUint  = api.Type{Kind: api.TUint}
	tText  = api.Type{Kind: api.TText}
	tBytes = api.Type{Kind: api.TBytes}
)

func named(s string) api.Type         { return api.Type{Kind: api.TNamed, Name: s} }
func list(x api.Type) api.Type        { return api.Type{Kind: api.TList, Of: []api.Type{x}} }
func table(k, v api.Type) api.Type    { return api.Type{Kind: api.TMap, Of: []api.Type{k, v}} }
func opt(x api.Type) api.Type         { return api.Type{Kind: api.TOpt, Of: []api.Type{x}} }
func value(n int, s string) api.Field { return api.Field{Tag: n, Name: s} }

func field(n int, s string, x api.Type) api.Field { return api.Field{Tag: n, Name: s, Type: x} }

// schema is a text with all kinds of declarations, types and methods.
const schema = "struct P { // a place }\n\t1 x : map<text, list<int?>>;\r\n 2 y : Q?; 3 z:bool; 4 b : bytes; 5 u:uint?; }\nunion Q{1 a:list<list<P>>?;}" +
	"enum E { 0 A; 7 B; 9999 C; } struct Z{}service S { 1 get(P) : Q; oneway 2 put(P):P; } // its end"

// schemaDecls are its declarations.
func schemaDecls() []api.Decl {
	return []api.Decl{
		{Kind: api.DStruct, Name: "P", At: 0, Fields: []api.Field{
			field(1, "x", table(tText, list(opt(tInt)))), field(2, "y", opt(named("Q"))), field(3, "z", tBool), field(4, "b", tBytes), field(5, "u", opt(tUint))}},
		{Kind: api.DUnion, Name: "Q", At: 102, Fields: []api.Field{field(1, "a", opt(list(list(named("P")))))}},
		{Kind: api.DEnum, Name: "E", At: 130, Fields: []api.Field{value(0, "A"), value(7, "B"), value(9999, "C")}},
		{Kind: api.DStruct, Name: "Z", At: 159},
		{Kind: api.DService, Name: "S", At: 169, Methods: []api.Method{{Tag: 1, Name: "get", In: "P", Out: "Q"}, {Tag: 2, Name: "put", In: "P", Out: "P", OneWay: true}}},
	}
}

// The chapter's example.
func TestExample(t *testing.T) {
	has(t, "enum E { 0 A; }", api.Decl{Kind: api.DEnum, Name: "E", Fields: []api.Field{value(0, "A")}})
}

// 9.1: a schema's declarations, written out.
func TestSchema(t *testing.T) {
	has(t, schema, schemaDecls()...)
}

// 9.1: the empty text, and texts of blanks and notes alone, have no declarations, and no fault.
func TestNothing(t *testing.T) {
	for _, s := range []string{"", " ", "\n", "\t\r\n ", "//", "//\n", "// struct P {}", "// {\n\n//}\n ", strings.Repeat(" ", 1024), "//" + strings.Repeat("x", 1022)} {
		has(t, s)
	}
}

// 9.1: each kind of declaration, without rows, with one, and with some.
func TestKinds(t *testing.T) {
	has(t, "struct P{}", api.Decl{Kind: api.DStruct, Name: "P"})
	has(t, "union P{}", api.Decl{Kind: api.DUnion, Name: "P"})
	has(t, "enum P{}", api.Decl{Kind: api.DEnum, Name: "P"})
	has(t, "service P{}", api.Decl{Kind: api.DService, Name: "P"})
	has(t, "struct P{1 a:int;}", api.Decl{Kind: api.DStruct, Name: "P", Fields: []api.Field{field(1, "a", tInt)}})
	has(t, "union P{1 a:int;}", api.Decl{Kind: api.DUnion, Name: "P", Fields: []api.Field{field(1, "a", tInt)}})
	has(t, "enum P{1 a;}", api.Decl{Kind: api.DEnum, Name: "P", Fields: []api.Field{value(1, "a")}})
	has(t, "service P{1 a(B):C;}", api.Decl{Kind: api.DService, Name: "P", Methods: []api.Method{{Tag: 1, Name: "a", In: "B", Out: "C"}}})
	has(t, "service P{oneway 1 a(B):C;}", api.Decl{Kind: api.DService, Name: "P", Methods: []api.Method{{Tag: 1, Name: "a", In: "B", Out: "C", OneWay: true}}})
	has(t, "\n struct P { 2 b : Q ; 1 a : text ; } ", api.Decl{Kind: api.DStruct, Name: "P", At: 2, Fields: []api.Field{field(2, "b", named("Q")), field(1, "a", tText)}})
	has(t, "//\nunion P { 2 b : Q ; 1 a : text ; } ", api.Decl{Kind: api.DUnion, Name: "P", At: 3, Fields: []api.Field{field(2, "b", named("Q")), field(1, "a", tText)}})
	has(t, "enum P { 2 b ; 1 a ; 2 b ; }", api.Decl{Kind: api.DEnum, Name: "P", Fields: []api.Field{value(2, "b"), value(1, "a"), value(2, "b")}})
	has(t, "service P { oneway 3 a ( B ) : C ; 3 a ( C ) : B ; oneway 0 d(D):D; }", api.Decl{Kind: api.DService, Name: "P", Methods: []api.Method{
		{Tag: 3, Name: "a", In: "B", Out: "C", OneWay: true}, {Tag: 3, Name: "a", In: "C", Out: "B"}, {Tag: 0, Name: "d", In: "D", Out: "D", OneWay: true}}})
}

// 9.1: several declarations in one text, of each two kinds, one name or several, with something between or nothing.
func TestSeveral(t *testing.T) {
	words := []string{"struct", "union", "enum", "service"}
	for i, a := range words {
		for j, b := range words {
			for _, gap := range []string{"", " ", "\n", "//}\n", "\t//\n//\n\r"} {
				s := a + " P{}" + gap + b + " P{}"
				has(t, s, api.Decl{Kind: i + 1, Name: "P"}, api.Decl{Kind: j + 1, Name: "P", At: len(a) + 4 + len(gap)})
			}
		}
	}
	has(t, "enum A{0 X;}enum B{1 Y;2 Z;}enum A{}",
		api.Decl{Kind: api.DEnum, Name: "A", Fields: []api.Field{value(0, "X")}},
		api.Decl{Kind: api.DEnum, Name: "B", At: 12, Fields: []api.Field{value(1, "Y"), value(2, "Z")}},
		api.Decl{Kind: api.DEnum, Name: "A", At: 28})
}

// hasType asks whether a type's text, as a field of a struct and of a union, is that type.
func hasType(t *testing.T, s string, x api.Type) {
	t.Helper()
	has(t, "struct P{1 a:"+s+";}", api.Decl{Kind: api.DStruct, Name: "P", Fields: []api.Field{field(1, "a", x)}})
	has(t, "union P {7 b : "+s+" ;2 c:"+s+"//\n;}", api.Decl{Kind: api.DUnion, Name: "P", Fields: []api.Field{field(7, "b", x), field(2, "c", x)}})
}

// 9.1: each kind of type, types within types, optional ones or not.
func TestTypes(t *testing.T) {
	rows := []struct {
		s string
		x api.Type
	}{
		{"bool", tBool}, {"int", tInt}, {"uint", tUint}, {"text", tText}, {"bytes", tBytes}, {"Q", named("Q")}, {"P", named("P")},
		{"a", named("a")}, {"Int", named("Int")}, {"ints", named("ints")}, {"in", named("in")}, {"Oneway", named("Oneway")}, {"lists", named("lists")}, {"abcdefghijklmnop", named("abcdefghijklmnop")},
		{"list<int>", list(tInt)}, {"map<text,int>", table(tText, tInt)}, {"map < int , text >", table(tInt, tText)},
		{"list\n<\tQ//>\n>", list(named("Q"))},
		{"map<A,B>", table(named("A"), named("B"))},
		{"bool?", opt(tBool)}, {"int ?", opt(tInt)}, {"Q?", opt(named("Q"))}, {"list<int>?", opt(list(tInt))}, {"list<int?>", list(opt(tInt))}, {"list<int?>?", opt(list(opt(tInt)))},
		{"map<text,int>?", opt(table(tText, tInt))}, {"map<text?,int>", table(opt(tText), tInt)}, {"map<text,int?>", table(tText, opt(tInt))}, {"map<text?,int?>?", opt(table(opt(tText), opt(tInt)))},
		{"list<list<list<Q>>>", list(list(list(named("Q"))))},
		{"list<list<Q>?>", list(opt(list(named("Q"))))},
		{"map<list<int>,map<bool,bytes>>", table(list(tInt), table(tBool, tBytes))},
		{"map<map<int,uint>,list<map<A,B>?>>?", opt(table(table(tInt, tUint), list(opt(table(named("A"), named("B"))))))},
		{"list<map<list<int>?,Q?>>", list(table(opt(list(tInt)), opt(named("Q"))))},
	}
	for _, r := range rows {
		hasType(t, r.s, r.x)
	}
}

// allTypes are the types that have no more than n within one another, of a few.
func allTypes(n int) ([]string, []api.Type) {
	texts := []string{"bool", "int", "Q"}
	l := []api.Type{tBool, tInt, named("Q")}
	if n > 0 {
		s, k := allTypes(n - 1)
		for i := range s {
			texts, l = append(texts, "list<"+s[i]+">"), append(l, list(k[i]))
			for j := range s {
				texts, l = append(texts, "map<"+s[i]+","+s[j]+">"), append(l, table(k[i], k[j]))
			}
		}
	}
	for i := range texts {
		texts, l = append(texts, texts[i]+"?"), append(l, opt(l[i]))
	}
	return texts, l
}

// 9.1: all types of a few with one, and many with two within one another.
func TestAllTypes(t *testing.T) {
	texts, l := allTypes(2)
	for i := range texts {
		if i < 200 || i%13 == 0 {
			hasType(t, texts[i], l[i])
		}
	}
}

// 9.1: any number may stand where one must, and any name; 9 asks for no more.
func TestNumbersAndNames(t *testing.T) {
	for n := range 10000 {
		s := strconv.Itoa(n)
		if n > 300 && n < 9700 && n%37 > 0 {
			continue
		}
		has(t, "struct P{"+s+" a:int;}", api.Decl{Kind: api.DStruct, Name: "P", Fields: []api.Field{field(n, "a", tInt)}})
		has(t, "enum P{"+s+" a;}", api.Decl{Kind: api.DEnum, Name: "P", Fields: []api.Field{value(n, "a")}})
		has(t, "service P{"+s+" a(B):C;oneway "+s+" d(E):F;}", api.Decl{Kind: api.DService, Name: "P", Methods: []api.Method{
			{Tag: n, Name: "a", In: "B", Out: "C"}, {Tag: n, Name: "d", In: "E", Out: "F", OneWay: true}}})
	}
	for _, s := range []string{"a", "Z", "a_", "A_9", "Struct", "structs", "STRUCT", "struct_", "one", "way", "oneWay", "map1", "ma", "abcdefghijklmnop", "z_23456789012345"} {
		has(t, "struct "+s+"{1 "+s+":"+s+";}", api.Decl{Kind: api.DStruct, Name: s, Fields: []api.Field{field(1, s, named(s))}})
		has(t, "enum "+s+"{1 "+s+";}", api.Decl{Kind: api.DEnum, Name: s, Fields: []api.Field{value(1, s)}})
		has(t, "service "+s+"{1 "+s+"("+s+"):"+s+";}", api.Decl{Kind: api.DService, Name: s, Methods: []api.Method{{Tag: 1, Name: s, In: s, Out: s}}})
	}
}

// anyTokens are tokens of each kind: the language's words, words that look like them, numbers, and signs.
func anyTokens() []string {
	l := strings.Fields(languageWords)
	l = append(l, "a", "P", "Struct", "INT", "ints", "oneway_", "0", "1", "300", "9999")
	return append(l, "{", "}", "(", ")", "<", ">", ":", ";", ",", "?")
}

// repeated is n pieces, one behind the other.
func repeated(n int, s string) string {
	return strings.Repeat(s, n)
}

// 9.1: as many declarations as may be, and one more: ErrLong, at whatever begins it, even where it might not stand; but for the end.
func TestManyDecls(t *testing.T) {
	for _, d := range []string{"struct P{}", "union P{}", "enum P{}", "service P{}", "struct P{1 a:int;}", "enum P{1 a;}", "service P{1 a(B):C;}"} {
		for n := range 17 {
			l, f := Parse(repeated(n, d))
			if len(l) != n || f != (api.Fault{}) {
				t.Fatalf("%d of %q: %v, %v", n, d, l, f)
			}
			held(t, repeated(n, d+"\n"))
		}
		s := repeated(16, d) + " //\n"
		wrong(t, s+d, api.ErrLong, len(s))
		wrong(t, s+d+d, api.ErrLong, len(s))
		for _, k := range anyTokens() {
			wrong(t, s+k, api.ErrLong, len(s))
			wrong(t, s+k+" "+d, api.ErrLong, len(s))
		}
		held(t, s)
		// Ahead of that the same tokens are what they are.
		s = repeated(15, d)
		wrong(t, s+"}", api.ErrToken, len(s))
		wrong(t, s+" x", api.ErrToken, len(s)+1)
		wrong(t, s+"enum P", api.ErrToken, len(s)+6)
	}
}

// 9.1: as many fields, values and methods as may be, and one more: ErrLong, at whatever begins it, even where it might not stand; but for } and the end.
func TestManyRows(t *testing.T) {
	for _, x := range []struct{ head, row string }{
		{"struct P {", "1 a:int;"}, {"struct P {", "1 a:list<Q?>?;"}, {"union P {", "1 a:int;"}, {"union P {", "0 b:map<A,B>;"},
		{"enum P {", "1 a;"}, {"service P {", "1 a(B):C;"}, {"service P {", "oneway 1 a(B):C;"},
	} {
		for n := range 17 {
			s := x.head + repeated(n, x.row)
			l, f := Parse(s + "}")
			if len(l) != 1 || len(l[0].Fields)+len(l[0].Methods) != n || f != (api.Fault{}) {
				t.Fatalf("%q: %v, %v", s, l, f)
			}
			held(t, s+"}")
			wrong(t, s, api.ErrToken, len(s))
		}
		full := "enum E{}" + x.head + repeated(16, x.row)
		for _, k := range anyTokens() {
			if k != "}" {
				wrong(t, full+k, api.ErrLong, len(full))
				wrong(t, full+" "+k+" }", api.ErrLong, len(full)+1)
			}
		}
		wrong(t, full+x.row, api.ErrLong, len(full))
		wrong(t, full+x.row+"}", api.ErrLong, len(full))
		wrong(t, full+repeated(9, x.row)+"}", api.ErrLong, len(full))
		wrong(t, full+"//\n ", api.ErrToken, len(full)+4)
		// What is one too many is told only where it begins.
		s := x.head + repeated(15, x.row)
		wrong(t, s+";", api.ErrToken, len(s))
		wrong(t, s+"1;", api.ErrToken, len(s)+1)
	}
}

// 9.1: each declaration has its own rows: many of them, all in all, are not too many.
func TestManyInAll(t *testing.T) {
	l, f := Parse(repeated(3, "enum E{"+repeated(16, "1 a;")+"}") + repeated(2, "service S{"+repeated(16, "1 a(B):C;")+"}"))
	if len(l) != 5 || len(l[2].Fields) != 16 || len(l[4].Methods) != 16 || f != (api.Fault{}) {
		t.Fatal(l, f)
	}
	s := repeated(15, "enum E{}") + "enum E{" + repeated(16, "1 a;") + "}"
	held(t, s)
	wrong(t, s+"}", api.ErrLong, len(s))
	s = repeated(15, "enum E{}") + "enum E{" + repeated(16, "1 a;")
	wrong(t, s+"enum E{}", api.ErrLong, len(s))
	wrong(t, s, api.ErrToken, len(s))
	wrong(t, repeated(17, "enum E{ "), api.ErrToken, 8)
}

// shell is something that a type stands in, one deeper; the first type in it begins behind some of its bytes.
type shell struct {
	first         int
	ahead, behind string
	around        func(api.Type) api.Type
}

func shells() []shell {
	return []shell{
		{5, "list<", ">", list},
		{4, "map<", ",int>", func(x api.Type) api.Type { return table(x, tInt) }},
		{4, "map<text,", ">", func(x api.Type) api.Type { return table(tText, x) }},
		{5, "list<", "?>", func(x api.Type) api.Type { return list(opt(x)) }},
		{6, "map < ", "\n? , A ? > ", func(x api.Type) api.Type { return table(opt(x), opt(named("A"))) }},
	}
}

// within is a type with n shells around it: their texts ahead and behind, and all of it.
func within(n int, x api.Type, which func(i int) shell) (string, string, api.Type) {
	ahead, behind := "", ""
	for i := range n {
		h := which(i)
		ahead, behind, x = h.ahead+ahead, behind+h.behind, h.around(x)
	}
	return ahead, behind, x
}

// deep asks whether types stand as deep as may be, and that one deeper is ErrDeep, whatever stands there.
func deep(t *testing.T, which func(i int) shell) {
	t.Helper()
	for n := range 9 {
		ahead, behind, x := within(n, tBool, which)
		hasType(t, ahead+"bool"+behind, x)
		hasType(t, ahead+"bool"+behind+"?", opt(x))
	}
	ahead, behind, x := within(8, opt(named("Q")), which)
	if !strings.HasPrefix(behind, "?") && !strings.HasPrefix(behind, "\n?") {
		hasType(t, ahead+"Q?"+behind, x)
	}
	ahead, behind, _ = within(9, tBool, which)
	head := "struct P { 1 a : " + ahead
	at := len(head) - len(which(0).ahead) + which(0).first
	wrong(t, head+"bool"+behind+"; }", api.ErrDeep, at)
	wrong(t, head[:at], api.ErrDeep, at)
	for _, k := range anyTokens() {
		wrong(t, head[:at]+k, api.ErrDeep, at)
		wrong(t, head[:at]+k+behind+";}", api.ErrDeep, at)
		wrong(t, head+k+behind+";}", api.ErrDeep, at)
	}
}

// 9.1: types that stand as deep as may be, and one deeper, by lists, by maps in either place, and by both.
func TestDeep(t *testing.T) {
	all := shells()
	for _, h := range all {
		deep(t, func(int) shell { return h })
	}
	for i := range all {
		for j := range all {
			deep(t, func(n int) shell { return all[(i+n*j)%len(all)] })
			deep(t, func(n int) shell {
				if n%2 > 0 {
					return all[i]
				}
				return all[j]
			})
		}
	}
}

// 9.1: a list or a map itself stands no deeper than what it is in; what is in it does, in each of its places.
func TestDeepPlaces(t *testing.T) {
	head := "struct P{1 a:" + repeated(8, "list<")
	wrong(t, head+"list", api.ErrToken, len(head)+4)
	wrong(t, head+"map", api.ErrToken, len(head)+3)
	wrong(t, head+"list>", api.ErrToken, len(head)+4)
	wrong(t, head+"list<", api.ErrDeep, len(head)+5)
	wrong(t, head+"map<", api.ErrDeep, len(head)+4)
	wrong(t, head+"map<int,int>", api.ErrDeep, len(head)+4)
	wrong(t, head+">", api.ErrToken, len(head))
	wrong(t, head, api.ErrToken, len(head))
	seven := "struct P{1 a:" + repeated(7, "list<")
	end := repeated(7, ">") + ";}"
	held(t, seven+"map<int,int>"+end)
	wrong(t, seven+"map<list<int>,int>"+end, api.ErrDeep, len(seven)+9)
	wrong(t, seven+"map<int,list<int>>"+end, api.ErrDeep, len(seven)+13)
	wrong(t, seven+"map<int,", api.ErrToken, len(seven)+8)
	// How deep it was ahead doesn't count.
	one := "map<" + repeated(7, "list<") + "int" + repeated(7, ">") + "," + repeated(7, "list<") + "int" + repeated(7, ">") + ">"
	if _, f := Parse("struct P{1 a:" + one + ";2 b:" + one + ";}struct Q{1 a:" + one + ";}"); f != (api.Fault{}) {
		t.Error(f)
	}
	many := "struct P{1 a:" + repeated(190, "list<")
	wrong(t, many, api.ErrDeep, 13+9*5)
	many = "union P{1 a:" + repeated(80, "map<text,")
	wrong(t, many, api.ErrDeep, 12+8*9+4)
}

// The sorts of tokens that may stand where a type begins, and behind all declarations.
const (
	types = "bool int uint text bytes list map NAME"
	decls = "struct union enum service END"
)

// place is what stands ahead, and what may stand behind it.
type place struct{ head, may string }

// places are all places of the language, by the chapter's words.
func places() []place {
	l := []place{
		{"", decls},
		{"enum", "NAME"}, {"enum P", "{"}, {"enum P {", "NUM }"}, {"enum P { 1", "NAME"}, {"enum P { 1 a", ";"}, {"enum P { 1 a ;", "NUM }"}, {"enum P { 1 a ; 1", "NAME"},
		{"enum P { }", decls}, {"enum P { 1 a ; }", decls},
		{"service", "NAME"}, {"service S", "{"}, {"service S {", "oneway NUM }"}, {"service S { }", decls}, {"service S { 1 a ( B ) : C ; }", decls},
	}
	for _, m := range []string{"1", "oneway 1", "1 a ( B ) : C ; oneway 1", "oneway 1 a ( B ) : C ; 1"} {
		h := "service S { " + m
		l = append(l, place{h, "NAME"}, place{h + " a", "("}, place{h + " a (", "NAME"}, place{h + " a ( B", ")"}, place{h + " a ( B )", ":"},
			place{h + " a ( B ) :", "NAME"}, place{h + " a ( B ) : C", ";"}, place{h + " a ( B ) : C ;", "oneway NUM }"}, place{h + " a ( B ) : C ; oneway", "NUM"})
	}
	l = append(l, place{"service S { oneway", "NUM"})
	for _, word := range []string{"struct", "union"} {
		l = append(l, place{word, "NAME"}, place{word + " P", "{"}, place{word + " P { }", decls}, place{word + " P { 1 a : int ; }", decls})
		for i, h := range []string{"enum E { } " + word + " P { 2 b : int ? ;", word + " P { 1 a : list < Q > ;", word + " P {"} {
			l = append(l, place{h, "NUM }"}, place{h + " 1", "NAME"}, place{h + " 1 a", ":"})
			l = append(l, typePlaces(h+" 1 a :", ";", i)...)
		}
	}
	return l
}

// typePlaces are the places in types that stand behind something, and ahead of a sign; n is how deep they go.
func typePlaces(h, sign string, n int) []place {
	l := []place{{h, types}}
	for _, x := range []string{"bool", "int", "uint", "text", "bytes", "Q", "list < int >", "map < A , B ? >"} {
		l = append(l, place{h + " " + x, "? " + sign}, place{h + " " + x + " ?", sign})
	}
	l = append(l, place{h + " list", "<"}, place{h + " map", "<"})
	if n == 0 {
		return l
	}
	l = append(l, typePlaces(h+" list <", ">", n-1)...)
	l = append(l, typePlaces(h+" map <", ",", n-1)...)
	return append(l, typePlaces(h+" map < text ,", ">", n-1)...)
}

// 9.1: at each place each kind of token: where it may not stand it is ErrToken; where it may, nothing is wrong up to the end.
func TestPlaces(t *testing.T) {
	for _, p := range places() {
		may := strings.Fields(p.may)
		at := len(p.head)
		if slices.Contains(may, "END") {
			if _, f := Parse(p.head); f != (api.Fault{}) {
				t.Fatalf("%q: %v", p.head, f)
			}
		} else {
			wrong(t, p.head, api.ErrToken, at)
			wrong(t, p.head+" //", api.ErrToken, at+3)
		}
		for _, k := range anyTokens() {
			tokens, _ := lex.Tokens(k)
			s := p.head + " " + k
			if !slices.Contains(may, sort(tokens[0])) {
				wrong(t, s, api.ErrToken, at+1)
				wrong(t, s+" }", api.ErrToken, at+1)
				wrong(t, p.head+"\n//\n"+k+" enum E { }", api.ErrToken, at+4)
			} else if _, f := Parse(s); f != (api.Fault{}) && f != (api.Fault{Err: api.ErrToken, At: len(s)}) {
				t.Fatalf("%q: %v", s, f)
			} else {
				held(t, s)
			}
		}
	}
}

// 9.1: a text that ends behind each of its tokens.
func TestEnds(t *testing.T) {
	for _, s := range []string{
		schema, "struct P { 1 x : map<text?, list<int?>>?; 2 y : Q?; }", "union U { 1 a : list<map<A, B>>; }", "enum E { 0 A; 1 B; }", "service S { 1 a(B) : C; oneway 2 d(E) : F; }",
	} {
		tokens, _ := lex.Tokens(s)
		open := false
		for _, k := range tokens[:len(tokens)-1] {
			open = k.Text != "}" // A } stands at a declaration's end alone.
			cut := s[:k.At+len(k.Text)]
			if open {
				wrong(t, cut, api.ErrToken, len(cut))
				wrong(t, cut+" //x\n", api.ErrToken, len(cut)+5)
			} else if l, f := Parse(cut); f != (api.Fault{}) || len(l) != strings.Count(cut, "{") {
				t.Fatalf("%q: %v, %v", cut, l, f)
			}
			held(t, cut)
		}
		if open {
			t.Fatalf("%q is open", s)
		}
		for n := range len(s) + 1 {
			held(t, s[:n])
			held(t, s[n:])
		}
	}
}

// 9.1: one token too few, too many, twice, or in the place of another one, at each place.
func TestOneOther(t *testing.T) {
	for _, s := range []string{schema, "struct P{1 a:map<text?,list<int?>>?;2 b:Q;}enum E{0 A;}", "service S{1 a(B):C;oneway 2 d(E):F;}union U{1 a:int;}"} {
		tokens, _ := lex.Tokens(s)
		for _, k := range tokens {
			ahead, behind := s[:k.At], s[k.At+len(k.Text):]
			held(t, ahead+" "+behind)
			held(t, ahead+k.Text+" "+k.Text+behind)
			for _, x := range anyTokens() {
				held(t, ahead+" "+x+" "+behind)
				held(t, ahead+" "+x+" "+k.Text+behind)
			}
		}
	}
}

// 9.1: a word of the language in the place of a name, and a name in the place of a word.
func TestWordsAndNames(t *testing.T) {
	for _, w := range strings.Fields(languageWords) {
		for _, d := range []string{"struct", "union", "enum", "service"} {
			wrong(t, d+" "+w+" {}", api.ErrToken, len(d)+1)
		}
		wrong(t, "struct P {1 "+w+":int;}", api.ErrToken, 12)
		wrong(t, "union P {1 "+w+":int;}", api.ErrToken, 11)
		wrong(t, "enum P {1 "+w+";}", api.ErrToken, 10)
		wrong(t, "service P {1 "+w+"(A):B;}", api.ErrToken, 13)
		wrong(t, "service P {oneway 1 "+w+"(A):B;}", api.ErrToken, 20)
		wrong(t, "service P {1 a("+w+"):B;}", api.ErrToken, 15)
		wrong(t, "service P {1 a(A):"+w+";}", api.ErrToken, 18)
	}
	for _, w := range []string{"struct", "union", "enum", "service", "oneway"} {
		wrong(t, "struct P {1 a:"+w+";}", api.ErrToken, 14)
		wrong(t, "struct P {1 a:list<"+w+">;}", api.ErrToken, 19)
		wrong(t, "struct P {1 a:map<"+w+",int>;}", api.ErrToken, 18)
		wrong(t, "struct P {1 a:map<int,"+w+">;}", api.ErrToken, 22)
	}
	for _, n := range []string{"Struct", "STRUCT", "structs", "struc", "a", "P", "message", "int", "oneway", "list"} {
		wrong(t, n+" P {}", api.ErrToken, 0)
		wrong(t, "enum E{}"+n+" P {}", api.ErrToken, 8)
	}
	for _, n := range []string{"OneWay", "ONEWAY", "one", "a", "struct", "int"} {
		wrong(t, "service P {"+n+" 1 a(A):B;}", api.ErrToken, 11)
	}
	for _, n := range []string{"List", "lists", "Map", "Q", "int", "text"} {
		wrong(t, "struct P {1 a:"+n+"<int>;}", api.ErrToken, 14+len(n))
		wrong(t, "struct P {1 a:"+n+"<int,int>;}", api.ErrToken, 14+len(n))
	}
	wrong(t, "enum E {oneway 1 a;}", api.ErrToken, 8)
	wrong(t, "struct E {oneway 1 a:int;}", api.ErrToken, 10)
	wrong(t, "service S {oneway oneway 1 a(A):B;}", api.ErrToken, 18)
	wrong(t, "service S {1 oneway a(A):B;}", api.ErrToken, 13)
}

// 9.1: a type has no second ?, wherever it stands.
func TestTwice(t *testing.T) {
	for _, x := range []string{"bool", "int", "uint", "text", "bytes", "Q", "list<int>", "list<int?>", "map<text,int>", "map<A?,B?>"} {
		for _, gap := range []string{"", " ", "//?\n"} {
			for _, h := range []struct{ ahead, behind string }{{"", ""}, {"list<", ">"}, {"map<", ",int>"}, {"map<int,", ">"}, {"list<list<", ">?>?"}} {
				s := "struct P{1 a:" + h.ahead + x + "?" + gap
				wrong(t, s+"?"+h.behind+";}", api.ErrToken, len(s))
				wrong(t, s+"??"+h.behind+";}", api.ErrToken, len(s))
				held(t, s+h.behind+";}")
			}
		}
	}
}

// lexFault is something that 8 finds wrong.
type lexFault struct {
	s string
	e api.Errno
}

func lexFaults() []lexFault {
	return []lexFault{
		{"_", api.ErrToken}, {"/", api.ErrToken}, {"\x00", api.ErrToken}, {"\xff", api.ErrToken}, {"!", api.ErrToken},
		{"abcdefghijklmnopq", api.ErrName}, {"01", api.ErrForm}, {"10000", api.ErrLong},
	}
}

// 9.1: what lex finds wrong is told ahead of all else, wherever it stands.
func TestLexAhead(t *testing.T) {
	faults := []string{
		"x", "}", "struct int {}", "struct P { 1 x int; }", "enum E {", "enum E { 0 A }", "service S { a }", "struct P { 1 a : int??; }",
		repeated(17, "enum E{}"), "enum E{" + repeated(17, "1 a;") + "}", "struct P { 1 a : " + repeated(9, "list<"),
	}
	for _, s := range append(faults, "", schema+"\n", "enum E {}") {
		for _, x := range lexFaults() {
			wrong(t, s+" "+x.s, x.e, len(s)+1)
			wrong(t, s+"\n"+x.s+" "+s, x.e, len(s)+1)
			wrong(t, x.s+" "+s, x.e, 0)
			for _, y := range lexFaults() {
				wrong(t, s+" "+x.s+" "+y.s, x.e, len(s)+1)
			}
		}
		wrong(t, s+" "+repeated(1024, " "), api.ErrLong, 0)
		wrong(t, s+" _"+repeated(1024, "x "), api.ErrLong, 0)
	}
	whole := schema + "\n"
	tokens, _ := lex.Tokens(whole)
	for _, x := range lexFaults() {
		for _, k := range tokens {
			wrong(t, whole[:k.At]+" "+x.s+" "+whole[k.At:], x.e, k.At+1)
		}
	}
}

// 9.1: a text as long as may be, and a byte longer.
func TestLengths(t *testing.T) {
	s := "enum E{}"
	has(t, repeated(1016, " ")+s, api.Decl{Kind: api.DEnum, Name: "E", At: 1016})
	has(t, s+repeated(1016, " "), api.Decl{Kind: api.DEnum, Name: "E"})
	wrong(t, repeated(1017, " ")+s, api.ErrLong, 0)
	wrong(t, s+repeated(1017, " "), api.ErrLong, 0)
	wrong(t, repeated(1017, " ")+"enum E{", api.ErrToken, 1024)
	wrong(t, repeated(1018, " ")+"enum E{", api.ErrLong, 0)
	for n := 1025; n < 70000; n += 997 {
		wrong(t, repeated(n, "x"), api.ErrLong, 0)
		wrong(t, repeated(n, " "), api.ErrLong, 0)
	}
}

// 9.1, R2: of several wrong things at one token the first that is named is told.
func TestFirstNamed(t *testing.T) {
	full := repeated(16, "enum E{}")
	for _, k := range []string{"}", "x", "1", "?", "int", "struct", "enum"} {
		wrong(t, full+" "+k, api.ErrLong, 129)
	}
	for _, head := range []string{"struct P{" + repeated(16, "1 a:int;"), "enum E{" + repeated(16, "1 a;"), "service S{" + repeated(16, "1 a(B):C;")} {
		for _, k := range []string{"{", "x", "1", "?", "int", "struct", "oneway", ";"} {
			wrong(t, head+k, api.ErrLong, len(head))
		}
	}
	for _, head := range []string{"struct P{1 a:" + repeated(9, "list<"), "struct P{1 a:" + repeated(8, "list<") + "map<", "struct P{" + repeated(15, "1 a:int;") + "1 b:" + repeated(9, "list<")} {
		for _, k := range []string{"", ">", ",", "1", "?", "struct", "oneway", "int", "Q", "list", "map", "}", ";"} {
			wrong(t, head+k, api.ErrDeep, len(head))
		}
	}
}

// 9.1: of several faults at several places the first from the front is told.
func TestFirstFromFront(t *testing.T) {
	faults := []struct {
		s  string
		e  api.Errno
		at int
	}{
		{"x", api.ErrToken, 0}, {"struct int {}", api.ErrToken, 7}, {"enum E{0 A}", api.ErrToken, 10}, {"struct P{1 a:int??;}", api.ErrToken, 17},
		{"enum E{" + repeated(17, "1 a;") + "}", api.ErrLong, 71}, {"struct P{1 a:" + repeated(9, "list<") + "int", api.ErrDeep, 58}, {"service S{1 a(B):}", api.ErrToken, 17},
	}
	for _, a := range faults {
		for _, b := range faults {
			wrong(t, a.s+" "+b.s, a.e, a.at)
			wrong(t, "enum E{0 A;}"+a.s+"\n"+b.s, a.e, 12+a.at)
		}
		wrong(t, a.s+" "+repeated(17, "enum E{}"), a.e, a.at)
	}
}

// 9.1: all rows of up to three tokens behind each of a few texts.
func TestAllShort(t *testing.T) {
	few := []string{"struct", "enum", "service", "oneway", "int", "list", "map", "A", "7", "{", "}", "(", ")", "<", ">", ":", ";", ",", "?"}
	heads := []string{"", "struct P", "union P{", "struct P{1 a", "struct P{1 a:", "struct P{1 a:list<", "struct P{1 a:map<A", "struct P{1 a:map<A?,int", "enum E{", "enum E{0 A;", "service S{", "service S{1", "service S{1 a(", "service S{oneway 1 a(B)", "enum E{}"}
	var all func(s string, n int)
	all = func(s string, n int) {
		held(t, s)
		if n > 0 {
			for _, k := range few {
				all(s+" "+k, n-1)
			}
		}
	}
	for _, h := range heads {
		all(h, 3)
	}
}

// chance makes declarations by chance.
type chance struct{ *rand.Rand }

func (r chance) name() string {
	l := []string{"a", "P", "Q_1", "Struct", "abcdefghijklmnop", "ints", "x", "Oneway"}
	return l[r.Intn(len(l))]
}

func (r chance) typeOf(room int) api.Type {
	if r.Intn(3) == 0 {
		return opt(r.base(room))
	}
	return r.base(room)
}

func (r chance) base(room int) api.Type {
	switch n := r.Intn(12); {
	case n < 3 && room > 0:
		return list(r.typeOf(room - 1))
	case n < 5 && room > 0:
		return table(r.typeOf(room-1), r.typeOf(room-1))
	case n < 7:
		return named(r.name())
	}
	return api.Type{Kind: 1 + r.Intn(5)}
}

func (r chance) decl() api.Decl {
	d := api.Decl{Kind: 1 + r.Intn(4), Name: r.name()}
	for range r.Intn(5) {
		switch tag := r.Intn(10000); d.Kind {
		case api.DService:
			d.Methods = append(d.Methods, api.Method{Tag: tag, Name: r.name(), In: r.name(), Out: r.name(), OneWay: r.Intn(2) == 0})
		case api.DEnum:
			d.Fields = append(d.Fields, value(tag, r.name()))
		default:
			d.Fields = append(d.Fields, field(tag, r.name(), r.typeOf(4)))
		}
	}
	return d
}

func (r chance) gap() string {
	l := []string{"", "", " ", "\n", "\t \r", "//x\n", " // }{\n "}
	return l[r.Intn(len(l))]
}

// decls are declarations, and their text, with gaps between their tokens; their places are those in the text.
func (r chance) decls(t *testing.T, most int) ([]api.Decl, string) {
	var l []api.Decl
	b := r.gap()
	for range r.Intn(most + 1) {
		d := r.decl()
		d.At = len(b)
		last := ""
		for _, k := range strings.Fields(declText(t, d)) {
			g := r.gap()
			if g == "" && !strings.ContainsAny(last+k, "{}()<>:;,?") {
				g = " "
			}
			if last != "" {
				b += g
			}
			b += k
			last = k
		}
		b += r.gap()
		l = append(l, d)
	}
	return l, b
}

// 9.1: declarations by chance, whatever stands between their tokens.
func TestByChance(t *testing.T) {
	r := chance{rand.New(rand.NewSource(9))}
	right := 0
	for range 10000 {
		l, s := r.decls(t, 6)
		if len(s) > 1024 {
			wrong(t, s, api.ErrLong, 0)
			continue
		}
		has(t, s, l...)
		right++
	}
	if right < 5000 {
		t.Errorf("%d of the texts were right", right)
	}
}

// 9.1: texts by chance, some of whose tokens are others than may be.
func TestWrongByChance(t *testing.T) {
	r := chance{rand.New(rand.NewSource(91))}
	right := 0
	for range 15000 {
		_, s := r.decls(t, 4)
		tokens, _ := lex.Tokens(s)
		b := ""
		for _, k := range tokens {
			switch r.Intn(12 * len(tokens)) {
			case 0, 1:
			case 2, 3:
				b += k.Text + " " + k.Text + " "
			case 4, 5, 6:
				b += anyTokens()[r.Intn(len(anyTokens()))] + " "
			default:
				b += k.Text + " "
			}
		}
		held(t, b)
		if model(b).Err == api.OK {
			right++
		}
	}
	if right < 3000 || right > 12000 {
		t.Errorf("%d of the texts were right", right)
	}
}

// R1: any bytes have their answer.
func TestAnyBytes(t *testing.T) {
	r := rand.New(rand.NewSource(92))
	for range 20000 {
		b := make([]byte, r.Intn(60))
		for i := range b {
			b[i] = byte(r.Intn(256))
		}
		held(t, string(b))
		held(t, "struct P{1 a:"+string(b))
	}
	for a := range 256 {
		for b := range 256 {
			held(t, string([]byte{byte(a), byte(b)}))
		}
	}
}

// 9.2: which texts are words of the language.
func TestWord(t *testing.T) {
	l := strings.Fields(languageWords)
	if len(l) != 12 {
		t.Fatal(l)
	}
	for _, w := range l {
		if !Word(w) {
			t.Errorf("%q is no word", w)
		}
		others := []string{strings.ToUpper(w), strings.ToUpper(w[:1]) + w[1:], w[:len(w)-1] + strings.ToUpper(w[len(w)-1:])}
		for _, b := range []string{" ", "\n", "\t", "\x00", "s", "x", "_", "1", "?", "<", w} {
			others = append(others, w+b, b+w)
		}
		for n := range len(w) {
			others = append(others, w[:n], w[n+1:], w[:n]+w[n+1:], w[:n]+" "+w[n:], w[:n]+"_"+w[n+1:])
		}
		for _, s := range others {
			if Word(s) != inLanguage(s) {
				t.Errorf("Word(%q) = %v", s, Word(s))
			}
		}
	}
	for _, s := range append([]string{"", " ", "\x00", "NAME", "NUMBER", "decl", "schema", "field", "type", "base", "method", "string", "float", "optional", "message", "0", "struct union"}, strings.Split("{}()<>:;,?", "")...) {
		if Word(s) {
			t.Errorf("%q is a word", s)
		}
	}
}

// 9.2: of all texts of up to three letters those are words that are.
func TestAllShortWords(t *testing.T) {
	const some = "abcdefghijklmnopqrstuvwxyzABIMNPT_1 \x00\xe9"
	n := 0
	for _, a := range []byte(some) {
		for _, b := range []byte(some) {
			for _, c := range []byte(some) {
				if Word(string([]byte{a, b, c})) {
					n++
				}
			}
			if Word(string([]byte{a, b})) {
				t.Errorf("%c%c is a word", a, b)
			}
		}
		if Word(string([]byte{a})) {
			t.Errorf("%c is a word", a)
		}
	}
	if n != 2 {
		t.Errorf("%d texts of three bytes are words; int and map are", n)
	}
}

// 9.1, 9.2: a word of the language is no name, and what is none is one.
func TestWordIsNoName(t *testing.T) {
	for _, s := range append(anyTokens(), "bytes_", "Bytes", "unions") {
		tokens, _ := lex.Tokens(s)
		_, f := Parse("enum " + s + "{}")
		if right := f == (api.Fault{}); right != (tokens[0].Kind == api.TkWord && !Word(s)) {
			t.Errorf("%q: %v", s, f)
		}
	}
}

// moved are declarations at places that are n behind theirs.
func moved(l []api.Decl, n int) []api.Decl {
	k := slices.Clone(l)
	for i := range k {
		k[i].At += n
	}
	return k
}

// both asks whether the declarations of two texts, a line's end between, are those of both.
func both(t *testing.T, a, b string) {
	t.Helper()
	l, f := Parse(a)
	k, g := Parse(b)
	if f.Err != api.OK || g.Err != api.OK {
		t.Fatalf("%q: %v; %q: %v", a, f, b, g)
	}
	s := a + "\n" + b
	switch {
	case len(s) > 1024:
		wrong(t, s, api.ErrLong, 0)
	case len(l)+len(k) > 16:
		wrong(t, s, api.ErrLong, len(a)+1+k[16-len(l)].At)
	default:
		has(t, s, append(slices.Clone(l), moved(k, len(a)+1)...)...)
	}
}

// 9.3: the declarations of two texts are those of both.
func TestBoth(t *testing.T) {
	texts := []string{"", " ", "//", "// x", "enum E{}", "enum E{} // x", "\n//\nenum E { 0 A; }//", "struct P{1 a:list<int?>?;}", "service S{oneway 1 a(B):C;}", schema}
	for n := 1; n <= 16; n++ {
		texts = append(texts, repeated(n, "union U{}"), repeated(n, "\tstruct P { 1 a:int; }//\n"))
	}
	for _, a := range texts {
		for _, b := range texts {
			both(t, a, b)
		}
	}
}

// 9.3: the same, by chance.
func TestBothByChance(t *testing.T) {
	r := chance{rand.New(rand.NewSource(93))}
	for range 5000 {
		_, a := r.decls(t, 3)
		_, b := r.decls(t, 3)
		if len(a) <= 1024 && len(b) <= 1024 {
			both(t, a, b)
		}
	}
}

// memory is where bytes or items lie.
type memory struct {
	at, size uintptr
	what     string
}

func textMemory(s string) memory {
	return memory{uintptr(unsafe.Pointer(unsafe.StringData(s))), uintptr(len(s)), s}
}

func listMemory[T any](l []T, what string) memory {
	var x T
	return memory{uintptr(unsafe.Pointer(unsafe.SliceData(l))), uintptr(cap(l)) * unsafe.Sizeof(x), what}
}

func typeMemory(x api.Type) []memory {
	l := []memory{textMemory(x.Name), listMemory(x.Of, "types")}
	for _, y := range x.Of {
		l = append(l, typeMemory(y)...)
	}
	return l
}

func declsMemory(k []api.Decl) []memory {
	l := []memory{listMemory(k, "decls")}
	for _, d := range k {
		l = append(l, textMemory(d.Name), listMemory(d.Fields, "fields"), listMemory(d.Methods, "methods"))
		for _, f := range d.Fields {
			l = append(l, textMemory(f.Name))
			l = append(l, typeMemory(f.Type)...)
		}
		for _, m := range d.Methods {
			l = append(l, textMemory(m.Name), textMemory(m.In), textMemory(m.Out))
		}
	}
	return l
}

// R4: what is handed out shares nothing with what was handed in, nor with what is handed out beside it, or at another time.
func TestOwnMemory(t *testing.T) {
	for _, text := range []string{schema, "struct PP{1 PP:PP;2 PP:map<PP?,list<PP>>;}", "service aa{1 aa(aa):aa;}enum aa{0 aa;0 aa;}"} {
		s := strings.Clone(text)
		a, _ := Parse(s)
		b, _ := Parse(s)
		l := append([]memory{textMemory(s)}, append(declsMemory(a), declsMemory(b)...)...)
		for i, x := range l {
			for _, y := range l[:i] {
				if x.size > 0 && y.size > 0 && x.at < y.at+y.size && y.at < x.at+x.size {
					t.Errorf("%q and %q share memory", x.what, y.what)
				}
			}
		}
	}
}

// spoil changes all that is in a type.
func spoil(x *api.Type) {
	for i := range x.Of {
		spoil(&x.Of[i])
	}
	*x = api.Type{Kind: -1, Name: "spoilt", Of: append(x.Of, *x)}
}

// R4, R5: what was done with an answer, or was asked ahead, changes no other one.
func TestApart(t *testing.T) {
	a, _ := Parse(schema)
	b, _ := Parse(schema)
	for i := range a {
		for j := range a[i].Fields {
			spoil(&a[i].Fields[j].Type)
			a[i].Fields[j].Name = "spoilt"
		}
		a[i].Fields = append(a[i].Fields, api.Field{Name: "spoilt"})
		clear(a[i].Methods)
	}
	clear(append(a[:1], a[:1]...))
	Parse(schema + " }")
	Parse("struct P{1 a:" + repeated(9, "list<"))
	if !reflect.DeepEqual(noNils(b), noNils(schemaDecls())) {
		t.Errorf("the declarations are %v by now", b)
	}
	has(t, schema, schemaDecls()...)
}

func FuzzParse(f *testing.F) {
	for _, s := range []string{"", schema, "enum E { 0 A; }", "service S{oneway 1 a(B):C;}", "struct P{1 a:map<text?,list<int>>?;}", "struct P { 1 x int; }", repeated(17, "enum E{}"), "struct P{1 a:" + repeated(9, "list<"), "a _", "// x"} {
		f.Add(s)
	}
	f.Fuzz(func(t *testing.T, s string) {
		held(t, s)
		if _, g := Parse(s); g.Err == api.OK {
			both(t, s, schema)
			both(t, schema, s)
		}
		if Word(s) != inLanguage(s) {
			t.Errorf("Word(%q) = %v", s, Word(s))
		}
	})
}
