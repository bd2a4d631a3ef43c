package check

import (
	"math"
	"math/rand"
	"reflect"
	"slices"
	"strconv"
	"strings"
	"testing"

	"concourse/api"
	"concourse/parse"
)

// The types that a word alone tells, in short.
var (
	tBool  = api.Type{Kind: api.TBool}
	tInt   = api.Type{Kind: api.TInt}
	tUint  = api.Type{Kind: api.TUint}
	tText  = api.Type{Kind: api.TText}
	tBytes = api.Type{Kind: api.TBytes}
)

func named(s string) api.Type      { return api.Type{Kind: api.TNamed, Name: s} }
func list(x api.Type) api.Type     { return api.Type{Kind: api.TList, Of: []api.Type{x}} }
func table(k, v api.Type) api.Type { return api.Type{Kind: api.TMap, Of: []api.Type{k, v}} }
func opt(x api.Type) api.Type      { return api.Type{Kind: api.TOpt, Of: []api.Type{x}} }

func field(n int, s string, x api.Type) api.Field { return api.Field{Tag: n, Name: s, Type: x} }
func value(n int, s string) api.Field             { return api.Field{Tag: n, Name: s} }

func method(n int, name, in, out string) api.Method {
	return api.Method{Tag: n, Name: name, In: in, Out: out}
}

func decl(kind int, name string, l ...api.Field) api.Decl {
	return api.Decl{Kind: kind, Name: name, Fields: l}
}

func service(name string, l ...api.Method) api.Decl {
	return api.Decl{Kind: api.DService, Name: name, Methods: l}
}

// of is a declaration of each kind that may be, by itself: it has a field where it must.
func of(kind int, name string) api.Decl {
	if kind == api.DUnion || kind == api.DEnum {
		return decl(kind, name, field(77, "own", tInt))
	}
	return decl(kind, name)
}

// placed are declarations, each at a place of its own, none of which is 0.
func placed(l ...api.Decl) []api.Decl {
	for i := range l {
		l[i].At = 100*i + 7
	}
	return l
}

// parsed are the declarations of a text.
func parsed(t *testing.T, s string) []api.Decl {
	t.Helper()
	l, f := parse.Parse(s)
	if f.Err != api.OK {
		t.Fatalf("%q: %v", s, f)
	}
	return l
}

// is asks whether a schema has this fault, at its declaration of that place.
func is(t *testing.T, want api.Errno, place int, l ...api.Decl) {
	t.Helper()
	if f := Check(l); f.Err != want || f.At != l[place].At {
		t.Fatalf("Check(%v) = %v, not %v at %d", l, f, want, l[place].At)
	}
	held(t, l)
}

// may asks whether a schema may be, and nothing is told beside that.
func may(t *testing.T, l ...api.Decl) {
	t.Helper()
	if f := Check(l); f != (api.Fault{}) {
		t.Fatalf("Check(%v) = %v", l, f)
	}
	held(t, l)
}

// isType asks whether just this is why a type may not stand.
func isType(t *testing.T, want api.Errno, l []api.Decl, x api.Type, inner bool) {
	t.Helper()
	if e := Type(l, x, inner); e != want {
		t.Fatalf("Type(%v, %v, %v) = %v, not %v", l, x, inner, e, want)
	}
	heldType(t, l, x)
}

// isFinite asks which declarations are finite: t or f for each.
func isFinite(t *testing.T, want string, l ...api.Decl) {
	t.Helper()
	var b strings.Builder
	for _, finite := range Finite(l) {
		b.WriteString(strconv.FormatBool(finite)[:1])
	}
	if b.String() != want {
		t.Fatalf("Finite(%v) = %s, not %s", l, b.String(), want)
	}
	held(t, l)
}

// The chapter's examples.
func TestExamples(t *testing.T) {
	is(t, api.ErrDeep, 0, parsed(t, "struct P { 1 p: P; }")...)
	may(t, parsed(t, "struct P { 1 p: P?; }")...)
}

const schemaText = "struct P { 1 a: bool; 2 b: int?; 3 c: list<list<P>>; 4 d: map<E,map<text,U>>?; 255 e: U; } union U { 7 a: uint; 1 b: P; 2 c: list<U>; }" +
	" enum E { 0 A; 9999 B; 7 C; } service S { 1 get(P): Q; oneway 255 put(Q): P; 7 same(P): P; } struct Q { } service T { } struct R { 1 a: map<bool,bytes>; 2 b: map<int,E>?; 3 c: map<uint,Q>; 4 d: E; }"

// 12.1: schemas that may be.
func TestMayBe(t *testing.T) {
	may(t, parsed(t, schemaText)...)
	for _, s := range []string{
		"struct P { }", "struct P { 1 a: int; }", "struct P { 1 a: P?; }", "union U { 1 a: int; }", "enum E { 0 A; }", "service S { }",
		"service S { 1 a(P): P; } struct P { }", "struct P { 9 a: int; 1 b: int; 5 A: int; }", "enum E { 5 A; 0 B; }",
		"union U { 1 a: U; 2 b: int; }", "struct P { 1 a: E; 2 b: E?; 3 c: list<E>; 4 d: map<E,E>; } enum E { 0 A; }",
		"struct a { 1 a: b; } struct b { 1 a: c; } union c { 1 c: list<a>; 2 b: a; }",
		"service A { 1 a(P): P; 2 b(P): P; } service B { 1 a(P): P; 2 b(P): P; } struct P { } struct Q { 1 a: int; 2 b: int; } union U { 1 a: int; 2 b: int; } enum E { 1 a; 2 b; }",
	} {
		may(t, parsed(t, s)...)
	}
}

// 12.1: schemas with one fault: its error, and the At of its declaration.
func TestOneFault(t *testing.T) {
	rest := " struct P { } enum E { 0 A; } union U { 1 a: int; } service S { }"
	for s, e := range map[string]api.Errno{
		"struct Q { } struct Q { }":                          api.ErrTwice,
		"enum Q { 0 A; } service Q { }":                      api.ErrTwice,
		"struct Q { 0 a: int; }":                             api.ErrTag,
		"struct Q { 256 a: int; }":                           api.ErrTag,
		"union Q { 1 b: int; 0 a: int; }":                    api.ErrTag,
		"service Q { 0 a(P): P; }":                           api.ErrTag,
		"service Q { oneway 256 a(P): P; }":                  api.ErrTag,
		"struct Q { 1 a: int; 1 b: int; }":                   api.ErrTwice,
		"struct Q { 1 a: int; 2 a: int; }":                   api.ErrTwice,
		"union Q { 1 a: int; 2 b: int; 1 c: int; }":          api.ErrTwice,
		"enum Q { 0 A; 1 B; 2 A; }":                          api.ErrTwice,
		"enum Q { 0 A; 1 B; 0 C; }":                          api.ErrTwice,
		"service Q { 1 a(P): P; 1 b(P): P; }":                api.ErrTwice,
		"service Q { 1 a(P): P; oneway 2 a(P): P; }":         api.ErrTwice,
		"struct Q { 1 a: Z; }":                               api.ErrName,
		"struct Q { 1 a: Z?; }":                              api.ErrName,
		"struct Q { 1 a: list<Z>; }":                         api.ErrName,
		"struct Q { 1 a: map<int,Z>; }":                      api.ErrName,
		"struct Q { 1 a: map<Z,int>; }":                      api.ErrType,
		"struct Q { 1 a: S; }":                               api.ErrType,
		"struct Q { 1 a: list<S>; }":                         api.ErrType,
		"struct Q { 1 a: list<int?>; }":                      api.ErrType,
		"struct Q { 1 a: map<int,int?>; }":                   api.ErrType,
		"struct Q { 1 a: map<int?,int>; }":                   api.ErrType,
		"struct Q { 1 a: map<bytes,int>; }":                  api.ErrType,
		"struct Q { 1 a: map<P,int>; }":                      api.ErrType,
		"struct Q { 1 a: map<U,int>; }":                      api.ErrType,
		"struct Q { 1 a: map<list<int>,int>; }":              api.ErrType,
		"union Q { 1 a: int?; }":                             api.ErrType,
		"union Q { 1 b: int; 2 a: P?; }":                     api.ErrType,
		"service Q { 1 a(Z): P; }":                           api.ErrName,
		"service Q { 1 a(P): Z; }":                           api.ErrName,
		"service Q { 1 a(E): P; }":                           api.ErrType,
		"service Q { 1 a(P): E; }":                           api.ErrType,
		"service Q { 1 a(U): P; }":                           api.ErrType,
		"service Q { 1 a(P): S; }":                           api.ErrType,
		"service Q { 1 b(P): P; 2 a(P): Q; }":                api.ErrType,
		"union Q { }":                                        api.ErrNone,
		"enum Q { }":                                         api.ErrNone,
		"struct Q { 1 a: Q; }":                               api.ErrDeep,
		"union Q { 1 a: Q; }":                                api.ErrDeep,
		"struct Q { 1 a: int; 2 b: R; } union R { 1 a: Q; }": api.ErrDeep,
	} {
		ahead := "struct O { } "
		l := parsed(t, ahead+s+rest)
		place := 1
		if l[2].Name == "Q" {
			place = 2
		}
		is(t, e, place, l...)
	}
}

// 12.1, 12.2: no declarations at all; those that a list has behind its end are none of it.
func TestNothing(t *testing.T) {
	wrong := []api.Decl{decl(0, "", field(-1, "", tInt))}
	for _, l := range [][]api.Decl{nil, {}, wrong[:0], wrong[1:]} {
		if f := Check(l); f != (api.Fault{}) {
			t.Fatal(f)
		}
		if b := Finite(l); len(b) != 0 {
			t.Fatal(b)
		}
		isType(t, api.OK, l, tInt, false)
		isType(t, api.OK, l, list(tInt), true)
		isType(t, api.ErrName, l, named(""), false)
		isType(t, api.ErrName, l, named("P"), true)
		isType(t, api.ErrType, l, api.Type{}, false)
	}
}

// 12.1: declarations without rows, whose lists are nil or of length 0.
func TestNoRows(t *testing.T) {
	for kind, e := range map[int]api.Errno{-1: api.ErrKind, 0: api.ErrKind, api.DStruct: api.OK, api.DUnion: api.ErrNone, api.DEnum: api.ErrNone, api.DService: api.OK, 5: api.ErrKind} {
		for _, d := range []api.Decl{{Kind: kind}, {Kind: kind, Fields: []api.Field{}, Methods: []api.Method{}}} {
			for _, name := range []string{"", "P", "a b"} {
				d.Name = name
				for at := range 3 {
					d.At = at
					want := api.Fault{Err: e, At: at}
					if e == api.OK {
						want = api.Fault{}
					}
					if f := Check([]api.Decl{d}); f != want {
						t.Fatalf("Check(%v) = %v, not %v", d, f, want)
					}
					held(t, []api.Decl{d})
				}
			}
		}
	}
}

// 12.1: an At is told as it stands, and hangs on nothing.
func TestAt(t *testing.T) {
	for _, at := range []int{0, 1, -1, 1023, math.MaxInt, math.MinInt} {
		for i := range 3 {
			l := []api.Decl{decl(api.DStruct, "A"), decl(api.DStruct, "B"), decl(api.DStruct, "C")}
			for j := range l {
				l[j].At = 55
			}
			l[i].At = at
			may(t, l...)
			l[i].Fields = []api.Field{field(1, "a", named("Z"))}
			if f := Check(l); f != (api.Fault{Err: api.ErrName, At: at}) {
				t.Fatal(f)
			}
			l[i].Fields[0].Type.Name = l[i].Name
			if f := Check(l); f != (api.Fault{Err: api.ErrDeep, At: at}) {
				t.Fatal(f)
			}
		}
	}
}

// tagEdges are tags at the bounds, and beyond all.
var tagEdges = []int{0, 1, 2, 128, 254, 255, 256, 257, 9998, 9999, 10000, 10001, -1, -255, -9999, 1 << 8, 1<<16 + 1, 1<<32 + 1, math.MaxInt32, math.MinInt32, math.MaxInt, math.MinInt}

// 12.1: tags of fields, of values and of methods; an enum's bounds hold of methods that one has, and those of the others for all rows that they have.
func TestTags(t *testing.T) {
	for _, tag := range tagEdges {
		for kind := 1; kind <= 4; kind++ {
			low, high := 1, 255
			if kind == api.DEnum {
				low, high = 0, 9999
			}
			want := api.OK
			if tag < low || tag > high {
				want = api.ErrTag
			}
			d := decl(kind, "Q", field(tag, "a", tInt))
			isOneOf(t, want, d)
			d.Fields = []api.Field{field(100, "b", tInt), field(tag, "a", tInt)}
			isOneOf(t, want, d)
			d = of(kind, "Q")
			d.Methods = []api.Method{method(tag, "a", "P", "P")}
			isOneOf(t, want, d)
			d.Methods = []api.Method{method(100, "b", "P", "P"), method(tag, "a", "P", "P")}
			isOneOf(t, want, d)
		}
	}
}

// isOneOf asks whether a declaration, which may name a struct P, has this fault, among others that have none.
func isOneOf(t *testing.T, want api.Errno, d api.Decl) {
	t.Helper()
	l := placed(decl(api.DStruct, "O"), d, decl(api.DStruct, "P"))
	if want == api.OK {
		may(t, l...)
	} else {
		is(t, want, 1, l...)
	}
}

// 12.1: a tag, and a name, that stands two and three times in one declaration, at all places.
func TestRowsTwice(t *testing.T) {
	for kind := 1; kind <= 4; kind++ {
		for n := 2; n <= 6; n++ {
			for i := range n {
				for j := i; j < n; j++ {
					for k := j; k < n; k++ {
						for _, methods := range []bool{false, true} {
							twiceAt(t, kind, n, methods, i, j, k)
						}
					}
				}
			}
		}
	}
}

// twiceAt asks about a declaration of n rows, of which those of some places have one tag, or one name; the places may be the same.
func twiceAt(t *testing.T, kind, n int, methods bool, places ...int) {
	t.Helper()
	want := api.OK
	if places[0] != places[len(places)-1] {
		want = api.ErrTwice
	}
	for _, byTag := range []bool{false, true} {
		d := of(kind, "Q")
		if !methods {
			d.Fields = nil
		}
		for i := range n {
			tag, name := 10+i, "n"+strconv.Itoa(i)
			if slices.Contains(places, i) {
				if byTag {
					tag = 9
				} else {
					name = "same"
				}
			}
			if methods {
				d.Methods = append(d.Methods, method(tag, name, "P", "P"))
			} else {
				d.Fields = append(d.Fields, field(tag, name, tInt))
			}
		}
		isOneOf(t, want, d)
	}
}

// 12.1: what stands in a declaration is twice there, too, if the first time is a field and the second one a method.
func TestFieldAndMethod(t *testing.T) {
	for kind := 1; kind <= 4; kind++ {
		d := decl(kind, "Q", field(1, "a", tInt), field(2, "b", tInt))
		for tag := 1; tag <= 3; tag++ {
			for _, name := range []string{"a", "b", "c"} {
				want := api.ErrTwice
				if tag == 3 && name == "c" {
					want = api.OK
				}
				d.Methods = []api.Method{method(tag, name, "P", "P")}
				isOneOf(t, want, d)
			}
		}
	}
}

// 12.1: tags and names that stand in other declarations are none of this one's; a row's name may be a declaration's.
func TestOtherDeclarations(t *testing.T) {
	for a := 1; a <= 4; a++ {
		for b := 1; b <= 4; b++ {
			x, y := decl(a, "A", field(1, "a", tInt), field(2, "A", tInt)), decl(b, "B", field(1, "a", tInt), field(2, "A", tInt))
			x.Methods, y.Methods = []api.Method{method(3, "B", "P", "P")}, []api.Method{method(3, "B", "P", "P")}
			may(t, placed(x, y, decl(api.DStruct, "P"))...)
		}
	}
}

// 12.1: a declaration's name that stands two and three times, of each kind: it is told at the second one.
func TestNamesTwice(t *testing.T) {
	for n := 2; n <= 5; n++ {
		for i := range n {
			for j := i; j < n; j++ {
				for kind := 1; kind <= 4; kind++ {
					var l []api.Decl
					for k := range n {
						l = append(l, of((k+kind)%4+1, "n"+strconv.Itoa(k)))
					}
					l[i].Name, l[j].Name, l[n-1].Name = "same", "same", "same"
					second := j
					if j == i {
						second = n - 1
					}
					if i == n-1 {
						may(t, placed(l...)...)
						continue
					}
					is(t, api.ErrTwice, second, placed(l...)...)
				}
			}
		}
	}
}

// 12.1: a name that differs in one byte is another one; any text may be a name, the empty one too, if a declaration bears it.
func TestAnyNames(t *testing.T) {
	strange := []string{"", " ", "a b", "int", "struct", "9", "\x00", "\xff", "\u20ac", strings.Repeat("x", 300), "P", "p", "P "}
	for _, name := range strange {
		l := placed(decl(api.DStruct, name), decl(api.DStruct, "q", field(1, "\xfe", named(name)), field(2, "", opt(list(named(name))))), service("s", method(1, "", name, name)))
		may(t, l...)
		for _, other := range strange {
			if other == name {
				continue
			}
			l[2].Methods[0].Out = other
			is(t, api.ErrName, 2, l...)
			l[1].Fields[0].Type.Name = other
			is(t, api.ErrName, 1, l...)
			l[2].Methods[0].Out, l[1].Fields[0].Type.Name = name, name
		}
	}
	var all []api.Decl
	for i, name := range strange {
		all = append(all, decl(api.DEnum, name, value(1, name), value(0, strange[(i+1)%len(strange)])))
	}
	may(t, placed(all...)...)
}

// kindEdges are kinds that there are not, of declarations and of types.
var kindEdges = []int{0, -1, -4, -6, 10, 11, 255, 257, 1<<8 + 4, 1<<16 + 1, 1<<32 + 1, 1<<32 + 6, math.MaxInt32, math.MinInt32, math.MaxInt, math.MinInt}

// 12.1, 12.2: kinds of declarations that there are not: ErrKind; as a type, and as what a method takes or gives, ErrType; they are not finite.
func TestWrongKinds(t *testing.T) {
	for _, kind := range append(kindEdges, 5, 6, 7, 8, 9) {
		for _, fields := range [][]api.Field{nil, {field(1, "a", tInt)}, {value(0, "A")}, {field(1, "a", named("E"))}} {
			is(t, api.ErrKind, 0, decl(kind, "X", fields...))
			l := placed(decl(api.DStruct, "P"), decl(api.DEnum, "E", value(0, "A")), decl(kind, "X", fields...))
			is(t, api.ErrKind, 2, l...)
			isFinite(t, "ttf", l...)
			isFinite(t, "fttff", placed(decl(kind, "X", fields...), decl(api.DStruct, "P"), decl(api.DEnum, "E", value(0, "A")), decl(api.DStruct, "Q", field(1, "a", named("X"))), decl(api.DUnion, "U", field(1, "a", named("X"))))...)
			isType(t, api.ErrType, l, named("X"), false)
			isType(t, api.ErrType, l, named("X"), true)
			isType(t, api.ErrType, l, table(named("X"), tInt), false)
			l[0].Fields = []api.Field{field(1, "a", named("X"))}
			is(t, api.ErrType, 0, l...)
			l[0] = service("S", method(1, "a", "X", "Z"))
			is(t, api.ErrType, 0, l...)
		}
	}
}

// all are declarations of each kind, and of kinds that there are not, by their names.
func all() []api.Decl {
	return placed(of(api.DStruct, "P"), of(api.DUnion, "U"), of(api.DEnum, "E"), of(api.DService, "S"), decl(0, "X"), decl(5, "Y"), of(api.DEnum, ""))
}

// 12.1: the types of each kind, in a field and in a list.
func TestTypes(t *testing.T) {
	for _, r := range []struct {
		x           api.Type
		field, list api.Errno
	}{
		{tBool, api.OK, api.OK}, {tInt, api.OK, api.OK}, {tUint, api.OK, api.OK}, {tText, api.OK, api.OK}, {tBytes, api.OK, api.OK},
		{named("P"), api.OK, api.OK}, {named("U"), api.OK, api.OK}, {named("E"), api.OK, api.OK}, {named(""), api.OK, api.OK},
		{named("S"), api.ErrType, api.ErrType}, {named("X"), api.ErrType, api.ErrType}, {named("Y"), api.ErrType, api.ErrType},
		{named("Z"), api.ErrName, api.ErrName}, {named("p"), api.ErrName, api.ErrName}, {named("P "), api.ErrName, api.ErrName}, {named("a"), api.ErrName, api.ErrName},
		{list(tInt), api.OK, api.OK}, {list(named("P")), api.OK, api.OK}, {list(named("S")), api.ErrType, api.ErrType}, {list(named("Z")), api.ErrName, api.ErrName},
		{opt(tInt), api.OK, api.ErrType}, {opt(named("U")), api.OK, api.ErrType}, {opt(named("S")), api.ErrType, api.ErrType}, {opt(named("Z")), api.ErrName, api.ErrType},
		{opt(opt(tInt)), api.ErrType, api.ErrType}, {opt(opt(named("Z"))), api.ErrType, api.ErrType}, {list(opt(named("Z"))), api.ErrType, api.ErrType},
		{opt(list(named("Z"))), api.ErrName, api.ErrType}, {opt(list(opt(tInt))), api.ErrType, api.ErrType}, {opt(list(table(tInt, tInt))), api.OK, api.ErrType},
		{table(tInt, named("P")), api.OK, api.OK}, {table(tInt, named("Z")), api.ErrName, api.ErrName}, {table(tInt, named("S")), api.ErrType, api.ErrType},
		{table(tInt, opt(tInt)), api.ErrType, api.ErrType}, {table(tInt, list(table(named("E"), named("U")))), api.OK, api.OK},
		{opt(table(named("E"), list(named("P")))), api.OK, api.ErrType},
	} {
		isType(t, r.field, all(), r.x, false)
		isType(t, r.list, all(), r.x, true)
	}
}

// 12.1: a map's keys of each kind, and of a name of each kind of declaration; what is wrong with them is told ahead of what is wrong in them, and of the values.
func TestKeys(t *testing.T) {
	for _, r := range []struct {
		x    api.Type
		want api.Errno
	}{
		{tBool, api.OK}, {tInt, api.OK}, {tUint, api.OK}, {tText, api.OK}, {tBytes, api.ErrType}, {named("E"), api.OK}, {named(""), api.OK},
		{named("P"), api.ErrType}, {named("U"), api.ErrType}, {named("S"), api.ErrType}, {named("X"), api.ErrType}, {named("Y"), api.ErrType}, {named("Z"), api.ErrType},
		{list(tInt), api.ErrType}, {list(named("Z")), api.ErrType}, {table(tInt, tInt), api.ErrType}, {table(tInt, named("Z")), api.ErrType},
		{opt(tInt), api.ErrType}, {opt(named("E")), api.ErrType}, {opt(named("Z")), api.ErrType}, {api.Type{}, api.ErrType},
		{api.Type{Kind: api.TInt, Name: "E"}, api.ErrType}, {api.Type{Kind: api.TInt, Of: []api.Type{tInt}}, api.ErrType},
		{api.Type{Kind: api.TNamed, Name: "E", Of: []api.Type{tInt}}, api.ErrType}, {api.Type{Kind: api.TList, Name: "E", Of: []api.Type{tInt}}, api.ErrType},
		{api.Type{Name: "E"}, api.ErrType},
	} {
		for _, inner := range []bool{false, true} {
			isType(t, r.want, all(), table(r.x, tInt), inner)
			isType(t, r.want, all(), list(table(r.x, named("E"))), inner)
			isType(t, r.want, all(), table(tText, table(r.x, tBytes)), inner)
		}
		isType(t, r.want, all(), opt(table(r.x, tInt)), false)
		behind := r.want
		if behind == api.OK {
			behind = api.ErrName
		}
		isType(t, behind, all(), table(r.x, named("Z")), false)
		isType(t, behind, all(), table(r.x, list(named("Z"))), false)
	}
}

// 12.1: types that are formed wrongly: kinds that there are not, too few and too many Of, a Name that may not be; what is within counts for nothing.
func TestFormed(t *testing.T) {
	within := []api.Type{tInt, named("Z"), opt(tInt), {}, named("E"), list(named("Z")), tBool}
	for kind := -2; kind <= 12; kind++ {
		for of := range 6 {
			for _, name := range []string{"", "P", "Z", "\x00"} {
				for first := range within {
					l := append(slices.Clone(within[first:]), within[:first]...)[:of]
					x := api.Type{Kind: kind, Name: name, Of: l}
					if n, named, ok := ofAndName(kind); !ok || n != of || name != "" && !named {
						isTypeWithin(t, api.ErrType, x)
					} else {
						heldType(t, all(), x)
					}
				}
			}
		}
	}
	for _, kind := range kindEdges {
		for _, x := range []api.Type{{Kind: kind}, {Kind: kind, Name: "P"}, {Kind: kind, Of: []api.Type{tInt}}, {Kind: kind, Of: []api.Type{tInt, tInt}}} {
			if kind != api.TList && kind != api.TMap {
				isTypeWithin(t, api.ErrType, x)
			}
		}
	}
}

// isTypeWithin asks whether this is why a type may not stand, alone and within others.
func isTypeWithin(t *testing.T, want api.Errno, x api.Type) {
	t.Helper()
	for _, inner := range []bool{false, true} {
		isType(t, want, all(), x, inner)
		isType(t, want, all(), list(x), inner)
		isType(t, want, all(), table(tText, x), inner)
		isType(t, want, all(), table(named("E"), list(x)), inner)
	}
	isType(t, want, all(), opt(x), false)
	isType(t, want, all(), opt(list(x)), false)
}

// 12.1: what is wrong outside is told ahead of what is wrong inside, be it the same error or another one.
func TestOutsideFirst(t *testing.T) {
	bad, none := named("S"), named("Z")
	for _, r := range []struct {
		x    api.Type
		want api.Errno
	}{
		{list(opt(none)), api.ErrType}, {opt(opt(none)), api.ErrType}, {table(list(none), tInt), api.ErrType}, {table(none, none), api.ErrType},
		{table(tBytes, none), api.ErrType}, {table(tInt, none), api.ErrName}, {table(tInt, bad), api.ErrType}, {table(tInt, table(tBytes, none)), api.ErrType},
		{list(table(tInt, opt(none))), api.ErrType}, {list(table(tInt, list(none))), api.ErrName}, {opt(table(tInt, none)), api.ErrName},
		{api.Type{Kind: api.TList, Of: []api.Type{none, none}}, api.ErrType}, {api.Type{Kind: api.TNamed, Name: "Z", Of: []api.Type{none}}, api.ErrType},
		{api.Type{Kind: api.TMap, Name: "Z", Of: []api.Type{tInt, none}}, api.ErrType}, {api.Type{Kind: api.TOpt, Name: "Z", Of: []api.Type{none}}, api.ErrType},
		{api.Type{Kind: 0, Name: "Z", Of: []api.Type{none}}, api.ErrType}, {api.Type{Kind: api.TMap, Of: []api.Type{tInt, none, tBytes}}, api.ErrType},
	} {
		isType(t, r.want, all(), r.x, false)
		if r.x.Kind == api.TOpt {
			r.want = api.ErrType
		}
		isType(t, r.want, all(), list(r.x), false)
	}
}

// wrapped is a type within so many lists and maps, by turns.
func wrapped(x api.Type, deep int) api.Type {
	for i := range deep {
		if i%2 == 0 {
			x = list(x)
		} else {
			x = table(tText, x)
		}
	}
	return x
}

// 12.1: types within types, many levels deep, as deep as the bound lets them be; what stands innermost is looked at, too.
func TestDeep(t *testing.T) {
	for _, deep := range []int{1, 2, 7, 8, 9, 10, 100, 1000, 1<<16 - 2} {
		for _, r := range []struct {
			x    api.Type
			want api.Errno
		}{
			{tInt, api.OK}, {named("P"), api.OK}, {named("Z"), api.ErrName}, {named("S"), api.ErrType}, {opt(tInt), api.ErrType}, {table(tBytes, tInt), api.ErrType},
			{table(named("Z"), tInt), api.ErrType}, {api.Type{}, api.ErrType}, {list(named("Z")), api.ErrName}, {api.Type{Kind: api.TInt, Of: []api.Type{tInt}}, api.ErrType},
		} {
			x := wrapped(r.x, deep)
			for _, e := range []api.Errno{Type(all(), x, false), Type(all(), x, true), Type(all(), opt(x), false)} {
				if e != r.want {
					t.Fatalf("%d deep: of %v %v, not %v", deep, r.x, e, r.want)
				}
			}
			if e := Type(all(), opt(x), true); e != api.ErrType {
				t.Fatalf("%d deep: %v", deep, e)
			}
			if f := Check([]api.Decl{of(api.DStruct, "P"), service("S"), decl(api.DStruct, "Q", field(1, "a", x))}); f.Err != r.want {
				t.Fatalf("%d deep: of %v %v, not %v", deep, r.x, f, r.want)
			}
		}
	}
}

// R1: a type that has itself within it has an answer, too, alone and in a field.
func TestEndless(t *testing.T) {
	for _, kind := range []int{api.TList, api.TOpt, api.TMap, api.TNamed, api.TInt} {
		for n := 1; n <= 3; n++ {
			own := make([]api.Type, n)
			for i := range own {
				own[i] = tInt
			}
			own[n-1] = api.Type{Kind: kind, Of: own}
			for _, inner := range []bool{false, true} {
				if e := Type(nil, own[n-1], inner); e != api.ErrType {
					t.Fatalf("kind %d of %d: %v", kind, n, e)
				}
			}
			l := []api.Decl{decl(api.DStruct, "P", field(1, "a", own[n-1]))}
			if f := Check(l); f.Err != api.ErrType {
				t.Fatalf("kind %d of %d: %v", kind, n, f)
			}
			if b := Finite(l); b[0] != (kind != api.TNamed) {
				t.Fatalf("kind %d of %d: %v", kind, n, b)
			}
		}
	}
}

// 12.1: what a method takes, then what it gives: names of structs alone.
func TestMethods(t *testing.T) {
	rest := []api.Decl{of(api.DStruct, "P"), of(api.DUnion, "U"), of(api.DEnum, "E"), of(api.DService, "T"), of(api.DStruct, "")}
	errs := map[string]api.Errno{"P": api.OK, "": api.OK, "U": api.ErrType, "E": api.ErrType, "T": api.ErrType, "Q": api.ErrType, "Z": api.ErrName, "p": api.ErrName, "int": api.ErrName}
	for in, a := range errs {
		for out, b := range errs {
			for kind := 1; kind <= 4; kind++ {
				for _, way := range []bool{false, true} {
					d := of(kind, "Q")
					m := api.Method{Tag: 2, Name: "a", In: in, Out: out, OneWay: way}
					d.Methods = []api.Method{method(1, "b", "P", ""), m}
					want := a
					if a == api.OK {
						want = b
					}
					if kind == api.DStruct && (in == "Q" || out == "Q") {
						held(t, append(placed(d), rest...))
						continue
					}
					l := placed(append([]api.Decl{d}, rest...)...)
					if want == api.OK {
						may(t, l...)
					} else {
						is(t, want, 0, l...)
					}
				}
			}
		}
	}
	may(t, placed(api.Decl{Kind: api.DStruct, Name: "Q", Methods: []api.Method{method(1, "a", "Q", "Q")}})...)
}

// 12.1: rows that a declaration of a kind has beside its own are looked at as those are; they are no fields of a union, and no values of an enum.
func TestRowsBeside(t *testing.T) {
	m := []api.Method{method(1, "a", "P", "P")}
	for kind, e := range map[int]api.Errno{api.DStruct: api.OK, api.DUnion: api.ErrNone, api.DEnum: api.ErrNone, api.DService: api.OK} {
		isOneOf(t, e, api.Decl{Kind: kind, Name: "Q", Methods: m})
		isOneOf(t, api.ErrName, api.Decl{Kind: kind, Name: "Q", Methods: []api.Method{method(1, "a", "Z", "P")}})
	}
	for kind, e := range map[int]api.Errno{api.DStruct: api.ErrName, api.DUnion: api.ErrName, api.DService: api.ErrName, api.DEnum: api.OK} {
		isOneOf(t, e, decl(kind, "Q", field(1, "a", named("Z"))))
		isOneOf(t, e, decl(kind, "Q", field(1, "a", tInt), field(2, "b", list(named("Z")))))
	}
	for _, x := range []api.Type{{}, {Kind: 99}, {Kind: -1, Name: "Z"}, list(opt(tInt)), opt(tInt), {Kind: api.TInt, Of: []api.Type{{}}}, named("Q"), named("P")} {
		isOneOf(t, api.OK, decl(api.DEnum, "Q", field(0, "a", x)))
	}
	// A service that hangs on itself is wrong by its type, not by its depth.
	isOneOf(t, api.ErrType, decl(api.DService, "Q", field(1, "a", named("Q"))))
	for kind := 1; kind <= 4; kind++ {
		want := api.OK
		if kind == api.DUnion {
			want = api.ErrType
		}
		isOneOf(t, want, decl(kind, "Q", field(1, "a", tInt), field(2, "b", opt(named("P")))))
	}
}

// peeled are ways to change declarations, each of which takes away what is wrong first, and what is wrong ahead of each, at a declaration of that place.
type peeled struct {
	want  api.Errno
	place int
	mend  func(l []api.Decl)
}

// 12.1: where several faults are in one schema, that one is told that the chapter names first, declaration by declaration, row by row.
func TestFirstFault(t *testing.T) {
	none := named("Z")
	l := placed(
		decl(0, "A", field(0, "a", none), field(0, "a", none), field(3, "", opt(tInt))),
		decl(9, "A", field(-1, "x", opt(none)), field(10000, "x", api.Type{}), field(3, "c", list(none))),
		api.Decl{Kind: api.DService, Name: "B", Methods: []api.Method{method(256, "m", "Z", "Z"), method(0, "m", "E", "Z")}},
		decl(api.DUnion, "B"),
		decl(api.DEnum, "E"),
		decl(api.DStruct, "F", field(1, "f", named("F")), field(2, "g", none)),
		decl(api.DUnion, "G", field(1, "f", named("F"))),
	)
	for _, p := range []peeled{
		{api.ErrKind, 0, func(l []api.Decl) { l[0].Kind = api.DStruct }},
		{api.ErrTag, 0, func(l []api.Decl) { l[0].Fields[0].Tag = 1 }},
		{api.ErrName, 0, func(l []api.Decl) { l[0].Fields[0].Type = tInt }},
		{api.ErrTag, 0, func(l []api.Decl) { l[0].Fields[1].Tag = 1 }},
		{api.ErrTwice, 0, func(l []api.Decl) { l[0].Fields[1].Tag = 2 }},
		{api.ErrTwice, 0, func(l []api.Decl) { l[0].Fields[1].Name = "b" }},
		{api.ErrName, 0, func(l []api.Decl) { l[0].Fields[1].Type = table(tBytes, none) }},
		{api.ErrType, 0, func(l []api.Decl) { l[0].Fields[1].Type = table(tText, none) }},
		{api.ErrName, 0, func(l []api.Decl) { l[0].Fields[1].Type = table(tText, tInt) }},
		{api.ErrTwice, 1, func(l []api.Decl) { l[1].Name = "C" }},
		{api.ErrKind, 1, func(l []api.Decl) { l[1].Kind = api.DUnion }},
		{api.ErrTag, 1, func(l []api.Decl) { l[1].Fields[0].Tag = 3 }},
		{api.ErrName, 1, func(l []api.Decl) { l[1].Fields[0].Type = opt(tInt) }},
		{api.ErrType, 1, func(l []api.Decl) { l[1].Fields[0].Type = tInt }},
		{api.ErrTag, 1, func(l []api.Decl) { l[1].Fields[1].Tag = 4 }},
		{api.ErrTwice, 1, func(l []api.Decl) { l[1].Fields[1].Name = "y" }},
		{api.ErrType, 1, func(l []api.Decl) { l[1].Fields[1].Type = tInt }},
		{api.ErrTwice, 1, func(l []api.Decl) { l[1].Fields[2].Tag = 5 }},
		{api.ErrName, 1, func(l []api.Decl) { l[1].Fields[2].Type = tInt }},
		{api.ErrTag, 2, func(l []api.Decl) { l[2].Methods[0].Tag = 255 }},
		{api.ErrName, 2, func(l []api.Decl) { l[2].Methods[0].In = "E" }},
		{api.ErrType, 2, func(l []api.Decl) { l[2].Methods[0].In = "A" }},
		{api.ErrName, 2, func(l []api.Decl) { l[2].Methods[0].Out = "C" }},
		{api.ErrType, 2, func(l []api.Decl) { l[2].Methods[0].Out = "A" }},
		{api.ErrTag, 2, func(l []api.Decl) { l[2].Methods[1].Tag = 255 }},
		{api.ErrTwice, 2, func(l []api.Decl) { l[2].Methods[1].Tag = 254 }},
		{api.ErrTwice, 2, func(l []api.Decl) { l[2].Methods[1].Name = "n" }},
		{api.ErrType, 2, func(l []api.Decl) { l[2].Methods[1].In = "A" }},
		{api.ErrName, 2, func(l []api.Decl) { l[2].Methods[1].Out = "A" }},
		{api.ErrTwice, 3, func(l []api.Decl) { l[3].Name = "D" }},
		{api.ErrNone, 3, func(l []api.Decl) { l[3].Methods = []api.Method{method(0, "m", "A", "A")} }},
		{api.ErrTag, 3, func(l []api.Decl) { l[3].Methods[0].Tag = 1 }},
		{api.ErrNone, 3, func(l []api.Decl) { l[3].Fields = []api.Field{field(2, "d", named("D"))} }},
		{api.ErrNone, 4, func(l []api.Decl) { l[4].Fields = []api.Field{value(10000, "V")} }},
		{api.ErrTag, 4, func(l []api.Decl) { l[4].Fields[0].Tag = 9999 }},
		{api.ErrName, 5, func(l []api.Decl) { l[5].Fields[1].Type = tInt }},
		{api.ErrDeep, 3, func(l []api.Decl) { l[3].Fields[0].Type = named("G") }},
		{api.ErrDeep, 3, func(l []api.Decl) { l[3].Fields[0].Type = tInt }},
		{api.ErrDeep, 5, func(l []api.Decl) { l[5].Fields[0].Type = named("E") }},
	} {
		is(t, p.want, p.place, l...)
		p.mend(l)
	}
	may(t, l...)
}

// 12.1: of two declarations that are wrong the first one counts, whatever their faults are, but ErrDeep, which is told behind all.
func TestFirstDeclaration(t *testing.T) {
	faulty := map[api.Errno][]api.Decl{
		api.ErrKind: {decl(0, "%"), decl(5, "%")},
		api.ErrTag:  {decl(api.DStruct, "%", field(0, "a", tInt)), decl(api.DEnum, "%", value(10000, "A"))},
		api.ErrName: {decl(api.DUnion, "%", field(1, "a", named("Z"))), service("%", method(1, "a", "P", "Z"))},
		api.ErrType: {decl(api.DUnion, "%", field(1, "a", opt(tInt))), service("%", method(1, "a", "E", "Z"))},
		api.ErrNone: {decl(api.DUnion, "%"), decl(api.DEnum, "%")},
		api.ErrDeep: {decl(api.DStruct, "%", field(1, "a", named("%"))), decl(api.DUnion, "%", field(1, "a", named("%")))},
	}
	called := func(d api.Decl, name string) api.Decl {
		d.Name, d.Fields = name, slices.Clone(d.Fields)
		for i := range d.Fields {
			if d.Fields[i].Type.Name == "%" {
				d.Fields[i].Type.Name = name
			}
		}
		return d
	}
	for a, as := range faulty {
		for b, bs := range faulty {
			for i := range 4 {
				x, y := called(as[i/2], "X"), called(bs[i%2], "Y")
				want, place := a, 1
				if a == api.ErrDeep && b != api.ErrDeep {
					want, place = b, 3
				}
				is(t, want, place, placed(of(api.DStruct, "P"), x, of(api.DEnum, "E"), y, of(api.DStruct, "Q"))...)
				y.Name = "X"
				if a != api.ErrDeep {
					is(t, a, 1, placed(of(api.DStruct, "P"), x, of(api.DEnum, "E"), y)...)
				} else {
					is(t, api.ErrTwice, 3, placed(of(api.DStruct, "P"), x, of(api.DEnum, "E"), y)...)
				}
			}
		}
	}
}

// 12.2: of each kind of declaration whether it is finite; a name of nothing is not.
func TestFiniteKinds(t *testing.T) {
	for _, fields := range [][]api.Field{nil, {field(1, "a", tInt)}, {field(1, "a", tInt), field(2, "b", opt(named("Z")))}, {field(1, "a", list(named("D")))}, {field(1, "a", table(tInt, named("Z")))}, {field(0, "", api.Type{})}, {field(1, "a", api.Type{Kind: 99, Name: "Z"})}, {field(1, "a", api.Type{Kind: api.TInt, Name: "Z"})}} {
		union := "f"
		if len(fields) > 0 {
			union = "t"
		}
		isFinite(t, "t", decl(api.DStruct, "D", fields...))
		isFinite(t, union, decl(api.DUnion, "D", fields...))
		isFinite(t, "t", decl(api.DEnum, "D", fields...))
		isFinite(t, "t", decl(api.DService, "D", fields...))
		isFinite(t, "f", decl(0, "D", fields...))
	}
	for _, x := range []api.Type{named("Z"), named(""), named("D"), {Kind: api.TNamed, Name: "Z", Of: []api.Type{tInt}}} {
		isFinite(t, "f", decl(api.DStruct, "D", field(1, "a", x)))
		isFinite(t, "f", decl(api.DStruct, "D", field(1, "a", tInt), field(2, "b", x), field(3, "c", tInt)))
		isFinite(t, "f", decl(api.DUnion, "D", field(1, "a", x)))
		isFinite(t, "t", decl(api.DUnion, "D", field(1, "a", x), field(2, "b", tInt)))
		isFinite(t, "t", decl(api.DUnion, "D", field(2, "b", tInt), field(1, "a", x)))
		isFinite(t, "t", decl(api.DEnum, "D", field(1, "a", x)))
		isFinite(t, "t", api.Decl{Kind: api.DService, Name: "D", Fields: []api.Field{field(1, "a", x)}, Methods: []api.Method{method(1, "a", "Z", "Z")}})
		isFinite(t, "f", decl(5, "D", field(1, "a", x), field(2, "b", tInt)))
	}
	for kind, finite := range map[int]string{api.DStruct: "t", api.DUnion: "t", api.DEnum: "t", api.DService: "t", 0: "f", 5: "f", -1: "f"} {
		isFinite(t, finite+finite+finite, decl(api.DStruct, "P", field(1, "a", named("K"))), decl(kind, "K", field(1, "a", tInt)), decl(api.DUnion, "U", field(1, "a", named("K")), field(2, "b", named("U"))))
	}
}

// 12.1, 12.2: a struct and a union that hang on themselves, at once, through one other and through several; not through a list, a map, and what may be absent.
func TestHanging(t *testing.T) {
	for _, r := range []struct{ text, finite string }{
		{"struct P { 1 p: P; }", "f"},
		{"struct P { 1 a: int; 2 p: P; 3 b: P?; }", "f"},
		{"struct P { 1 p: P?; 2 q: list<P>; 3 r: map<int,P>; 4 s: list<P>?; }", "t"},
		{"union U { 1 u: U; }", "f"},
		{"union U { 1 u: U; 2 v: U; }", "f"},
		{"union U { 1 u: U; 2 n: int; }", "t"},
		{"union U { 1 n: int; 2 u: U; }", "t"},
		{"union U { 1 u: U; 2 v: U; 3 n: list<U>; }", "t"},
		{"union U { 1 u: U; 2 n: map<int,U>; 3 v: U; }", "t"},
		{"struct P { 1 q: Q; } struct Q { 1 p: P; }", "ff"},
		{"struct P { 1 q: Q; } struct Q { 1 p: P?; }", "tt"},
		{"struct P { 1 q: Q?; } struct Q { 1 p: P; }", "tt"},
		{"struct P { 1 q: list<Q>; } struct Q { 1 p: P; }", "tt"},
		{"struct P { 1 q: map<int,Q>; } struct Q { 1 p: P; }", "tt"},
		{"struct P { 1 u: U; } union U { 1 p: P; }", "ff"},
		{"struct P { 1 u: U; } union U { 1 p: P; 2 n: int; }", "tt"},
		{"struct P { 1 u: U; } union U { 1 p: P; 2 q: Q; } struct Q { }", "ttt"},
		{"struct P { 1 u: U; } union U { 1 p: P; 2 q: Q; } struct Q { 1 q: Q; }", "fff"},
		{"union U { 1 v: V; } union V { 1 u: U; }", "ff"},
		{"union U { 1 v: V; } union V { 1 u: U; 2 w: W; } union W { 1 u: U; 2 v: V; 3 e: E; } enum E { 0 A; }", "tttt"},
		{"struct A { 1 a: B; } struct B { 1 a: C; } struct C { 1 a: D; } struct D { 1 a: A; } struct E { 1 a: A; } struct F { 1 a: G; } struct G { }", "ffffftt"},
		{"struct A { 1 a: B; } struct B { 1 a: C; } struct C { 1 a: D; } struct D { 1 a: E; } enum E { 0 A; }", "ttttt"},
		{"struct A { 1 a: B; 2 b: B; 3 c: B; } struct B { 1 a: C; 2 b: C; } struct C { }", "ttt"},
		{"struct A { 1 a: B; 2 b: A; 3 c: B; } struct B { 1 a: C; 2 b: C; } struct C { }", "ftt"},
		{"struct A { 1 a: B; 2 b: C; } struct B { } struct C { 1 c: C; } union D { 1 a: C; 2 b: B; } union E { 1 b: B; 2 a: C; }", "ftftt"},
		{"union A { 1 a: B; 2 b: B; } union B { 1 a: A; 2 b: C; } struct C { 1 a: D; 2 b: D; } union D { 1 a: int; 2 b: D; }", "tttt"},
	} {
		l := parsed(t, r.text)
		isFinite(t, r.finite, l...)
		if i := strings.Index(r.finite, "f"); i >= 0 {
			is(t, api.ErrDeep, i, l...)
		} else {
			may(t, l...)
		}
	}
}

// 12.1, 12.2: a row of declarations, of which each hangs on another one: they are finite if the last one is, and not if that hangs on the first, in any order.
func TestRows(t *testing.T) {
	for n := 1; n <= 12; n++ {
		for step := 1; step < 6; step++ {
			for kinds := range 3 {
				order := make([]int, n)
				for i := range order {
					order[i] = i * step % n
				}
				if slices.Sort(order); len(slices.Compact(order)) < n {
					continue
				}
				l := make([]api.Decl, n)
				for i := range n {
					l[i*step%n] = decl(api.DStruct+(i*kinds)%2, "n"+strconv.Itoa(i), field(1, "a", named("n"+strconv.Itoa(i+1))))
				}
				last := (n - 1) * step % n
				l[last].Fields[0].Type = tInt
				isFinite(t, strings.Repeat("t", n), l...)
				l[last].Fields[0].Type = named("n" + strconv.Itoa(n))
				isFinite(t, strings.Repeat("f", n), l...)
				l[last].Fields[0].Type = named("n0")
				isFinite(t, strings.Repeat("f", n), l...)
				is(t, api.ErrDeep, 0, placed(l...)...)
				l[last].Fields[0].Type = opt(named("n0"))
				l[last].Kind = api.DStruct
				may(t, placed(l...)...)
			}
		}
	}
}

// 12.2: a name that stands twice is the first declaration's; of the others each is looked at by itself.
func TestFiniteTwice(t *testing.T) {
	own, no := decl(api.DStruct, "A", field(1, "a", named("A"))), decl(api.DStruct, "A")
	user := decl(api.DStruct, "B", field(1, "a", named("A")))
	isFinite(t, "ftf", own, no, user)
	isFinite(t, "ttt", no, own, user)
	isFinite(t, "ttt", user, no, own)
	isFinite(t, "fft", user, own, no)
	isFinite(t, "fff", decl(0, "A"), own, user)
	isFinite(t, "tttt", service("A"), own, user, no)
	isType(t, api.ErrType, []api.Decl{service("A"), no}, named("A"), false)
	isType(t, api.OK, []api.Decl{no, service("A")}, named("A"), false)
	isType(t, api.ErrType, []api.Decl{no, of(api.DEnum, "A")}, table(named("A"), tInt), false)
	isType(t, api.OK, []api.Decl{of(api.DEnum, "A"), no}, table(named("A"), tInt), false)
}

// graphs calls f with all lists of n declarations, each of them a struct or a union of up to two fields of a few types.
func graphs(n int, l []api.Decl, f func(l []api.Decl)) {
	if len(l) == n {
		f(l)
		return
	}
	name := string(rune('a' + len(l)))
	types := []api.Type{tInt, opt(named("a"))}
	for i := range n {
		types = append(types, named(string(rune('a'+i))))
	}
	rows := [][]api.Field{nil}
	for i, x := range types {
		rows = append(rows, []api.Field{field(1, "x", x)})
		for _, y := range types[i:] {
			rows = append(rows, []api.Field{field(1, "x", x), field(2, "y", y)})
		}
	}
	for _, fields := range rows {
		for kind := api.DStruct; kind <= api.DUnion; kind++ {
			graphs(n, append(l[:len(l):len(l)], decl(kind, name, fields...)), f)
		}
	}
}

// 12.1, 12.2: all ways in which up to three declarations hang on one another.
func TestAllGraphs(t *testing.T) {
	for n := 1; n <= 3; n++ {
		graphs(n, nil, func(l []api.Decl) { heldCheck(t, l) })
	}
}

// shortTypes are all types of a few names and kinds, with types of up to so many levels within.
func shortTypes(levels int) []api.Type {
	var l []api.Type
	for kind := 0; kind <= 10; kind++ {
		l = append(l, api.Type{Kind: kind}, api.Type{Kind: kind, Name: "E"})
	}
	l = append(l, named("P"), named("S"), named("Z"), named("X"))
	for range levels {
		within := l
		for _, x := range within {
			l = append(l, list(x), opt(x), api.Type{Kind: api.TInt, Of: []api.Type{x}}, api.Type{Kind: api.TNamed, Name: "E", Of: []api.Type{x}})
			for _, y := range []api.Type{tInt, tBytes, named("E"), named("Z"), named("P"), opt(tInt), {}} {
				l = append(l, table(x, y), table(y, x))
			}
		}
	}
	return l
}

// 12.1: all types of up to two levels within, in a field of each kind of declaration.
func TestAllTypes(t *testing.T) {
	for i, x := range shortTypes(2) {
		heldType(t, all(), x)
		if i%3 == 0 {
			for kind := 1; kind <= 4; kind++ {
				heldCheck(t, placed(decl(api.DStruct, "P"), of(api.DEnum, "E"), service("S"), decl(kind, "Q", field(1, "a", x))))
			}
		}
	}
}

// 12.3: without its last declaration a schema that may be has no new fault, but for names that are missing, whatever they stand as.
func TestShorter(t *testing.T) {
	l := parsed(t, "struct P { 1 a: int; } union U { 1 p: P; 2 u: U; } struct Q { 1 u: U; } enum E { 0 A; } service S { 1 a(P): Q; } struct R { 1 e: list<E>; 2 f: map<E,Q>; }")
	for n := range len(l) + 1 {
		may(t, l[:n]...)
	}
	slices.Reverse(l)
	placed(l...)
	may(t, l...)
	for _, r := range []struct {
		n     int
		want  api.Errno
		place int
	}{
		{5, api.ErrName, 1}, {4, api.ErrName, 1}, {3, api.ErrName, 0}, {2, api.ErrName, 0}, {1, api.ErrName, 0},
	} {
		is(t, r.want, r.place, l[:r.n]...)
	}
	k := parsed(t, "struct R { 1 f: map<E,int>; } enum E { 0 A; }")
	may(t, k...)
	is(t, api.ErrType, 0, k[:1]...)
}

// row are n declarations, of which each, but the last one, hangs on the one behind it, twice.
func row(n int) []api.Decl {
	l := make([]api.Decl, n)
	for i := range l {
		l[i] = decl(api.DStruct, strconv.Itoa(i), field(1, "a", named(strconv.Itoa(i+1))), field(2, "b", tInt), field(3, "c", named(strconv.Itoa(i+1))))
	}
	l[n-1].Fields = nil
	return placed(l...)
}

// R1: many declarations, which hang on one another in a row, from the front to the end and from the end to the front.
func TestMany(t *testing.T) {
	const n = 100000
	l := row(n)
	for range 2 {
		if f := Check(l); f != (api.Fault{}) || slices.Contains(Finite(l), false) {
			t.Fatal(f)
		}
		slices.Reverse(l)
	}
	l[n-1].Fields = []api.Field{field(1, "a", named("0"))}
	if f := Check(l); f != (api.Fault{Err: api.ErrDeep, At: 7}) || slices.Contains(Finite(l), true) {
		t.Fatal(f)
	}
	l[n-1].Name = "Z"
	if f := Check(l); f != (api.Fault{Err: api.ErrName, At: 100*(n-2) + 7}) {
		t.Fatal(f)
	}
}

// R1: as many values as an enum may have, and one more; many fields of a union, of which the last one alone is finite.
func TestManyRows(t *testing.T) {
	e := decl(api.DEnum, "E")
	for i := range 10000 {
		e.Fields = append(e.Fields, value(9999-i, strconv.Itoa(i)))
	}
	if f := Check([]api.Decl{e}); f != (api.Fault{}) {
		t.Fatal(f)
	}
	e.Fields = append(e.Fields, value(0, "more"))
	if f := Check([]api.Decl{e}); f.Err != api.ErrTwice {
		t.Fatal(f)
	}
	u := decl(api.DUnion, "U")
	for i := range 100000 {
		u.Fields = append(u.Fields, field(i, strconv.Itoa(i), named("U")))
	}
	if b := Finite([]api.Decl{u}); b[0] {
		t.Fatal(b)
	}
	u.Fields[len(u.Fields)-1].Type = tInt
	if b := Finite([]api.Decl{u}); !b[0] {
		t.Fatal(b)
	}
}

// chance makes declarations by chance; of wrong bits it makes one in so many, none if that is 0.
type chance struct {
	*rand.Rand
	wrong int
}

func (r chance) slip() bool {
	return r.wrong > 0 && r.Intn(r.wrong) == 0
}

// one is one of a few texts.
func (r chance) one(l ...string) string {
	return l[r.Intn(len(l))]
}

// typed is a type in a field, of names of structs, unions and enums, and of enums.
func (r chance) typed(names, enums []string, deep int) api.Type {
	x := r.base(names, enums, deep)
	switch {
	case r.slip():
		x.Kind = r.Intn(12) - 1
	case r.slip():
		x.Of = append(x.Of, tInt)
	case r.slip():
		x.Name = r.one("", "S0", "Z", "n1")
	}
	return x
}

func (r chance) base(names, enums []string, deep int) api.Type {
	switch n := r.Intn(12); {
	case n < 2 && deep > 0:
		return list(r.typed(names, enums, deep-1))
	case n < 4 && deep > 0:
		return table(r.keys(enums), r.typed(names, enums, deep-1))
	case n < 8 && len(names) > 0:
		return named(r.one(names...))
	}
	return api.Type{Kind: 1 + r.Intn(5)}
}

// keys is a type of which a map's keys may be.
func (r chance) keys(enums []string) api.Type {
	if r.Intn(2) == 0 && len(enums) > 0 || r.slip() {
		return named(r.one(append(enums, "Z")[:max(1, len(enums))]...))
	}
	return api.Type{Kind: 1 + r.Intn(4)}
}

// tag is a tag of a row of some place.
func (r chance) tag(i int) int {
	if r.slip() {
		return tagEdges[r.Intn(len(tagEdges))]
	}
	return 1 + 10*i + r.Intn(10)
}

func (r chance) name(i int) string {
	if r.slip() {
		return r.one("r0", "r1", "")
	}
	return "r" + strconv.Itoa(i)
}

// kinds are how many declarations of each kind, by chance, and their names: of structs, of enums, and of all that a type may name.
func (r chance) kinds() (kinds []int, structs, enums, types []string) {
	for i := range r.Intn(8) {
		kind := 1 + r.Intn(4)
		name := "n" + strconv.Itoa(i)
		kinds = append(kinds, kind)
		if kind == api.DStruct {
			structs = append(structs, name)
		}
		if kind == api.DEnum {
			enums = append(enums, name)
		}
		if kind != api.DService {
			types = append(types, name)
		}
	}
	return kinds, structs, enums, types
}

// decls are declarations by chance; without a slip nothing but ErrDeep is wrong with them.
func (r chance) decls() []api.Decl {
	kinds, structs, enums, types := r.kinds()
	var l []api.Decl
	for i, kind := range kinds {
		d := decl(kind, "n"+strconv.Itoa(i))
		for j := range 1 + r.Intn(3) {
			f := field(r.tag(j), r.name(j), r.typed(types, enums, 3))
			if kind != api.DUnion && r.Intn(3) == 0 || r.slip() {
				f.Type = opt(f.Type)
			}
			if kind != api.DService || r.slip() {
				d.Fields = append(d.Fields, f)
			}
			if len(structs) > 0 && (kind == api.DService || r.slip()) {
				d.Methods = append(d.Methods, api.Method{Tag: r.tag(j), Name: r.name(j), In: r.one(structs...), Out: r.one(structs...), OneWay: r.Intn(2) == 0})
			}
		}
		if r.slip() {
			d.Kind = r.Intn(7) - 1
		}
		if r.slip() {
			d.Name = r.one("n0", "n1", "n2")
		}
		if r.slip() {
			d.Fields = nil
		}
		l = append(l, d)
	}
	return placed(l...)
}

// 12.1 to 12.3: declarations by chance, with which nothing is wrong but that some have no end.
func TestByChance(t *testing.T) {
	r := chance{rand.New(rand.NewSource(12)), 0}
	n := map[api.Errno]int{}
	for range 8000 {
		l := r.decls()
		n[Check(l).Err]++
		held(t, l)
	}
	if n[api.OK] < 2000 || n[api.ErrDeep] < 500 || len(n) != 2 {
		t.Errorf("%v", n)
	}
}

// 12.1, 12.2: declarations by chance, of which some have faults.
func TestWrongByChance(t *testing.T) {
	r := chance{rand.New(rand.NewSource(121)), 40}
	n := map[api.Errno]int{}
	for range 20000 {
		l := r.decls()
		n[Check(l).Err]++
		held(t, l)
	}
	for _, e := range []api.Errno{api.OK, api.ErrKind, api.ErrTwice, api.ErrTag, api.ErrType, api.ErrName, api.ErrNone, api.ErrDeep} {
		if n[e] < 300 {
			t.Errorf("%v: %d", e, n[e])
		}
	}
}

// within is a list in a longer one: something lies ahead of it, and behind its end.
func within[T any](l []T, other T) []T {
	k := append(append([]T{other}, l...), other, other)
	return k[1 : 1+len(l)]
}

func typeWithin(x api.Type) api.Type {
	var of []api.Type
	for _, y := range x.Of {
		of = append(of, typeWithin(y))
	}
	x.Of = within(of, api.Type{Kind: -7, Name: "behind", Of: []api.Type{tInt}})
	return x
}

// R4: what lies behind a list's end counts for nothing, and stays as it was, as all that is handed in does.
func TestBehindEnds(t *testing.T) {
	for _, text := range []string{schemaText, "struct P { 1 q: Q; } struct Q { 1 p: P; }", "union U { } enum E { 0 A; }", "service S { 1 a(P): Z; } struct P { 1 e: list<E>; }", "struct behind { }"} {
		plain := parsed(t, text)
		want := Check(plain)
		l := parsed(t, text)
		for i, d := range l {
			for j, f := range d.Fields {
				d.Fields[j].Type = typeWithin(f.Type)
			}
			l[i].Fields = within(d.Fields, field(-1, "behind", named("behind")))
			l[i].Methods = within(d.Methods, method(-1, "behind", "behind", ""))
		}
		l = within(l, decl(-1, "behind", field(1, "a", named("E"))))
		ahead := wholeDecls(l)
		if f := Check(l); f != want {
			t.Fatalf("%q: %v, not %v", text, f, want)
		}
		if b := Finite(l); !slices.Equal(b, Finite(plain)) {
			t.Fatalf("%q: %v", text, b)
		}
		held(t, l)
		if now := wholeDecls(l); !reflect.DeepEqual(now, ahead) {
			t.Fatalf("%v: they were %v ahead", now, ahead)
		}
		heldType(t, l, typeWithin(table(tInt, list(named("behind")))))
	}
}

// R4: what Finite hands out is own memory: what is done to it changes nothing that is told at another time.
func TestOwnMemory(t *testing.T) {
	l := parsed(t, "struct P { 1 p: P; } struct Q { } struct R { 1 q: Q; }")
	a := Finite(l)
	b := Finite(l)
	for i := range a {
		a[i] = !a[i]
	}
	_ = append(a[:1], false, false)
	if want := []bool{false, true, true}; !slices.Equal(b, want) || !slices.Equal(Finite(l), want) {
		t.Fatal(b)
	}
}

// R5: the same call has the same answer, whatever was asked ahead, and whatever became of a list that was asked about.
func TestAgain(t *testing.T) {
	l := parsed(t, schemaText)
	other := parsed(t, "struct P { 1 p: P; } union Q { } service E { 1 a(P): Z; }")
	for range 50 {
		may(t, l...)
		isFinite(t, "ttttttt", l...)
		is(t, api.ErrNone, 1, other...)
		isFinite(t, "fft", other...)
		isType(t, api.OK, l, table(named("E"), named("Q")), true)
		isType(t, api.ErrType, other, table(named("E"), named("Q")), true)
		k := parsed(t, schemaText)
		k[0].Name, k[1].Fields[0].Tag = "Z", 0
		is(t, api.ErrName, 0, k...)
	}
}

func FuzzCheck(f *testing.F) {
	for _, s := range []string{"", schemaText, "enum E { 0 A; }", "struct P { 1 p: P; }", "union U { 1 u: U; 2 n: int?; }", "service S { 1 a(P): Z; }"} {
		f.Add(s, int64(1))
	}
	f.Fuzz(func(t *testing.T, s string, seed int64) {
		if l, g := parse.Parse(s); g.Err == api.OK {
			held(t, l)
		}
		held(t, chance{rand.New(rand.NewSource(seed)), 30}.decls())
	})
}
