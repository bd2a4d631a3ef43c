package blank

import (
	"fmt"
	"math"
	"math/rand"
	"reflect"
	"slices"
	"strings"
	"sync"
	"testing"
	"unsafe"

	"concourse/api"
	"concourse/desc"
	"concourse/fit"
	"concourse/value"
)

// The types that a word alone tells, in short.
var (
	tBool  = api.Type{Kind: api.TBool}
	tInt   = api.Type{Kind: api.TInt}
	tUint  = api.Type{Kind: api.TUint}
	tText  = api.Type{Kind: api.TText}
	tBytes = api.Type{Kind: api.TBytes}
)

// made is a type of a kind, of these types.
func made(kind int, of ...api.Type) api.Type { return api.Type{Kind: kind, Of: of} }
func named(s string) api.Type                { return api.Type{Kind: api.TNamed, Name: s} }
func list(x api.Type) api.Type               { return made(api.TList, x) }
func table(k, v api.Type) api.Type           { return made(api.TMap, k, v) }
func opt(x api.Type) api.Type                { return made(api.TOpt, x) }

func field(n int, s string, x api.Type) api.Field { return api.Field{Tag: n, Name: s, Type: x} }

func decl(kind int, name string, l ...api.Field) api.Decl {
	return api.Decl{Kind: kind, Name: name, Fields: l}
}

// The blank values that are told by their kinds alone.
var (
	vBool  = api.Value{Kind: api.VBool}
	vInt   = api.Value{Kind: api.VInt}
	vUint  = api.Value{Kind: api.VUint}
	vText  = api.Value{Kind: api.VText}
	vBytes = api.Value{Kind: api.VBytes}
	vList  = api.Value{Kind: api.VList}
	vMap   = api.Value{Kind: api.VMap}
)

func vEnum(n int64) api.Value { return api.Value{Kind: api.VEnum, Num: n} }
func vUnion(n int, v api.Value) api.Value {
	return api.Value{Kind: api.VUnion, Tags: []int{n}, Items: []api.Value{v}}
}

func vStruct(tags []int, l ...api.Value) api.Value {
	return api.Value{Kind: api.VStruct, Tags: tags, Items: l}
}

func tags(l ...int) []int { return l }

// read is the schema of a text that is one.
func read(t *testing.T, s string) *desc.Desc {
	t.Helper()
	d, f := desc.Read(s)
	if f != (api.Fault{}) {
		t.Fatalf("%q: %v", s, f)
	}
	return d
}

// of is the schema of declarations that may be.
func of(t *testing.T, l ...api.Decl) *desc.Desc {
	t.Helper()
	d, f := desc.Of(l)
	if f != (api.Fault{}) {
		t.Fatalf("%v: %v", l, f)
	}
	return d
}

// is asks whether just this is the blank value of a type, by just this depth; the same is asked of the type's option, of a struct by its name, and of the model.
func is(t *testing.T, d *desc.Desc, x api.Type, want api.Value, depth int) {
	t.Helper()
	for _, y := range []api.Type{x, opt(x), opt(opt(x))} {
		if v, n := Type(d, y); n != depth || !value.Same(v, want) {
			t.Fatalf("Type of %v, by %v: %s, %d, not %s, %d", y, d.Decls(), value.Text(v), n, value.Text(want), depth)
		}
		held(t, d, y)
	}
	if x.Kind == api.TNamed && d.Kind(x.Name) == api.DStruct {
		isStruct(t, d, x.Name, want, depth)
	}
}

// isStruct asks the same of a struct's name.
func isStruct(t *testing.T, d *desc.Desc, name string, want api.Value, depth int) {
	t.Helper()
	if v, n := Struct(d, name); n != depth || !value.Same(v, want) {
		t.Fatalf("Struct of %q, by %v: %s, %d, not %s, %d", name, d.Decls(), value.Text(v), n, value.Text(want), depth)
	}
}

// isNone asks whether a type has no blank value.
func isNone(t *testing.T, d *desc.Desc, x api.Type) {
	t.Helper()
	is(t, d, x, api.Value{}, 0)
}

// The chapter's example.
func TestExample(t *testing.T) {
	d := read(t, "struct P { 1 a: text; 2 b: P?; }")
	is(t, d, named("P"), vStruct(tags(1), vText), 2)
	isStruct(t, d, "P", vStruct(tags(1), vText), 2)
}

const baseText = "struct O { } struct Q { 200 o: O?; 1 a: int?; 3 q: Q?; } struct I { 1 i: int; } struct R { 1 r: R?; 2 l: list<R>; 3 m: map<int,R>; }" +
	" struct A { 7 g: list<A>; 1 a: bool; 3 c: uint; 2 b: int; 5 e: bytes; 4 d: text; 6 f: E; 8 h: map<text,A>; 255 o: A?; 10 j: O; 9 k: int?; }" +
	" enum E { 7 B; 9999 D; 3 A; } enum Z { 0 A; 1 B; } enum F { 5 A; } enum G { 9999 A; 300 B; 256 C; }" +
	" union U { 100 c: O; 2 a: I; 9 b: bool; } union V { 1 v: V; 3 w: W; 2 o: O; } union W { 4 v: V; 5 w: W; 255 e: E; } union X { 30 n: int; } struct K { 4 u: U; 2 w: W; 3 i: I; }" +
	" service S { 1 get(I): O; oneway 2 put(Q): O; }"

// one is a type of baseText's schema, or of one that follows, its blank value, and the depth.
type one struct {
	x     api.Type
	want  api.Value
	depth int
}

// plains are types that lead to no declaration.
func plains() []one {
	p := named("none such")
	return []one{
		{tBool, vBool, 1},
		{tInt, vInt, 1},
		{tUint, vUint, 1},
		{tText, vText, 1},
		{tBytes, vBytes, 1},
		{list(tInt), vList, 1},
		{list(list(tText)), vList, 1},
		{list(p), vList, 1},
		{list(named("")), vList, 1},
		{list(api.Type{}), vList, 1},
		{list(made(api.TList)), vList, 1},
		{list(made(api.TMap, tInt)), vList, 1},
		{list(opt(tInt)), vList, 1},
		{table(tInt, tText), vMap, 1},
		{table(tText, table(tInt, tInt)), vMap, 1},
		{table(p, p), vMap, 1},
		{table(list(tInt), tInt), vMap, 1},
		{table(api.Type{}, api.Type{}), vMap, 1},
		{table(opt(tInt), made(api.TMap)), vMap, 1},
	}
}

// declareds are types that lead to declarations.
func declareds() []one {
	none := vStruct(nil)
	whole := vStruct(tags(1, 2, 3, 4, 5, 6, 7, 8, 10), vBool, vInt, vUint, vText, vBytes, vEnum(3), vList, vMap, none)
	return []one{
		{named("O"), none, 1},
		{named("Q"), none, 1},
		{named("I"), vStruct(tags(1), vInt), 2},
		{named("R"), vStruct(tags(2, 3), vList, vMap), 2},
		{named("A"), whole, 2},
		{named("E"), vEnum(3), 1},
		{named("Z"), vEnum(0), 1},
		{named("F"), vEnum(5), 1},
		{named("G"), vEnum(256), 1},
		{named("U"), vUnion(9, vBool), 2},
		{named("V"), vUnion(2, none), 2},
		{named("W"), vUnion(255, vEnum(3)), 2},
		{named("X"), vUnion(30, vInt), 2},
		{named("K"), vStruct(tags(2, 3, 4), vUnion(255, vEnum(3)), vStruct(tags(1), vInt), vUnion(9, vBool)), 3},
		{list(named("A")), vList, 1},
		{table(named("E"), named("V")), vMap, 1},
	}
}

func fine() []one { return slices.Concat(plains(), declareds()) }

// wrongs are types that have no blank value.
func wrongs() []api.Type {
	var l []api.Type
	for _, kind := range []int{0, -1, 10, 11, 256, math.MaxInt, math.MinInt, 1<<32 + api.TInt, -1 << 32} {
		l = append(l, made(kind), made(kind, tInt), made(kind, tInt, tInt), api.Type{Kind: kind, Name: "O"})
	}
	for _, kind := range []int{api.TBool, api.TInt, api.TUint, api.TText, api.TBytes} {
		l = append(l, made(kind, tInt), made(kind, made(kind)), made(kind, tInt, tInt), made(kind, named("O"), tInt, tText), api.Type{Kind: kind, Name: "O", Of: []api.Type{{}}})
	}
	for _, x := range []api.Type{tInt, named("O"), {}} {
		l = append(l, made(api.TList), made(api.TList, x, x), made(api.TList, x, x, x))
		l = append(l, made(api.TMap), made(api.TMap, x), made(api.TMap, x, x, x), made(api.TMap, x, x, x, x))
		l = append(l, made(api.TOpt), made(api.TOpt, x, x), made(api.TOpt, x, x, x))
	}
	for _, name := range []string{"", "none such", "S", "o", "O ", " O", "OO", "get", "A.a"} {
		l = append(l, named(name), api.Type{Kind: api.TNamed, Name: name, Of: []api.Type{tInt}})
	}
	return l
}

// 19.1: each kind of type by itself, without a schema, too.
func TestPlains(t *testing.T) {
	d := read(t, baseText)
	for _, o := range plains() {
		is(t, d, o.x, o.want, o.depth)
		is(t, nil, o.x, o.want, o.depth)
		is(t, of(t), o.x, o.want, o.depth)
	}
}

// 19.1: types that are a declaration's, or of one.
func TestDeclareds(t *testing.T) {
	d := read(t, baseText)
	for _, o := range declareds() {
		is(t, d, o.x, o.want, o.depth)
	}
}

// 19.1: what has no blank value, by itself and as an option's.
func TestWrongs(t *testing.T) {
	d := read(t, baseText)
	for _, x := range wrongs() {
		isNone(t, d, x)
		isNone(t, nil, x)
		isNone(t, of(t), x)
		isNone(t, d, made(api.TOpt, x, tInt))
		isNone(t, d, made(api.TOpt, tInt, x))
		// Within a list or a map it counts for nothing.
		is(t, d, list(x), vList, 1)
		is(t, d, table(x, tInt), vMap, 1)
		is(t, d, table(tInt, x), vMap, 1)
		is(t, d, table(x, x), vMap, 1)
	}
}

// 19.1: a Name of another Kind, and Of of a TNamed, count for nothing.
func TestCountsForNothing(t *testing.T) {
	d := read(t, baseText)
	for _, o := range plains() {
		for _, name := range []string{"O", "S", "U", "E", "", "none such", "int"} {
			x := o.x
			x.Name = name
			is(t, d, x, o.want, o.depth)
			is(t, nil, x, o.want, o.depth)
			is(t, d, api.Type{Kind: api.TOpt, Name: name, Of: []api.Type{x}}, o.want, o.depth)
		}
	}
	for _, o := range declareds() {
		for _, of := range [][]api.Type{{}, {tInt}, {{}}, {o.x}, {named("none such"), named("S")}, {tInt, made(api.TOpt), tText}} {
			x := o.x
			if x.Kind == api.TNamed {
				x.Of = of
			}
			is(t, d, x, o.want, o.depth)
			is(t, d, api.Type{Kind: api.TOpt, Name: "S", Of: []api.Type{x}}, o.want, o.depth)
		}
	}
	for _, x := range wrongs() {
		if x.Kind != api.TNamed {
			x.Name = "I"
			isNone(t, d, x)
		}
	}
}

// 19.1: each short type of any Kind, with any number of Of up to 3.
func TestShortTypes(t *testing.T) {
	d := read(t, baseText)
	inner := []api.Type{{}, tInt, named("I"), named("S"), list(tInt), opt(tInt), opt(named("U")), made(api.TOpt), made(api.TMap, tInt)}
	n := map[int]int{}
	for kind := -1; kind <= 11; kind++ {
		for _, name := range []string{"", "I", "S", "U", "E"} {
			n[held(t, d, api.Type{Kind: kind, Name: name})]++
			for _, a := range inner {
				n[held(t, d, api.Type{Kind: kind, Name: name, Of: []api.Type{a}})]++
				for _, b := range inner {
					n[held(t, d, api.Type{Kind: kind, Name: name, Of: []api.Type{a, b}})]++
					n[held(t, d, api.Type{Kind: kind, Name: name, Of: []api.Type{a, b, a}})]++
				}
			}
		}
	}
	if n[0] < 1000 || n[1] < 500 || n[2] < 100 {
		t.Fatal(n)
	}
}

// matter is a type with its blank value and the depth, and the declarations that it needs.
type matter struct {
	l []api.Decl
	one
}

// declared is the same with one declaration more, of a name of its own; the type is that declaration's. Past MaxDeep there is no value.
func (o matter) declared(kind int, want api.Value, depth int, rows ...api.Field) matter {
	name := "W" + fmt.Sprint(len(o.l))
	if depth > api.MaxDeep || o.depth == 0 {
		want, depth = api.Value{}, 0
	}
	return matter{append(slices.Clone(o.l), decl(kind, name, rows...)), one{named(name), want, depth}}
}

// wraps put a type within others.
func wraps() []func(o matter) matter {
	return []func(o matter) matter{
		func(o matter) matter {
			return o.declared(api.DStruct, vStruct(tags(6), o.want), o.depth+1, field(6, "x", o.x))
		},
		func(o matter) matter {
			want := vStruct(tags(2, 6, 8), vInt, o.want, vText)
			return o.declared(api.DStruct, want, o.depth+1, field(8, "z", tText), field(7, "y", opt(o.x)), field(6, "x", o.x), field(2, "a", tInt))
		},
		func(o matter) matter {
			want := vStruct(tags(1, 254, 255), o.want, vList, o.want)
			return o.declared(api.DStruct, want, o.depth+1, field(255, "x", o.x), field(254, "y", list(o.x)), field(1, "z", o.x), field(3, "o", opt(tInt)))
		},
		func(o matter) matter {
			return o.declared(api.DUnion, vUnion(255, o.want), o.depth+1, field(255, "x", o.x))
		},
		func(o matter) matter {
			w := "W" + fmt.Sprint(len(o.l))
			return o.declared(api.DUnion, vUnion(9, o.want), o.depth+1, field(10, "y", o.x), field(9, "x", o.x), field(1, "w", named(w)))
		},
	}
}

// isMatter asks whether just this is told.
func isMatter(t *testing.T, o matter) {
	t.Helper()
	is(t, of(t, o.l...), o.x, o.want, o.depth)
	if n := len(o.l) - 1; n >= 0 && o.x.Name == o.l[n].Name {
		// The order of declarations, and of rows, makes no difference.
		l := slices.Clone(o.l)
		slices.Reverse(l)
		for i := range l {
			l[i].Fields = slices.Clone(l[i].Fields)
			slices.Reverse(l[i].Fields)
		}
		is(t, of(t, l...), o.x, o.want, o.depth)
	}
}

// rowTypes are the types of fine that may stand in a field.
func rowTypes(t *testing.T) []one {
	var l []one
	base := read(t, baseText).Decls()
	for _, o := range fine() {
		if _, f := desc.Of(append(slices.Clone(base), decl(api.DStruct, "Row", field(1, "x", o.x)))); f.Err == api.OK {
			l = append(l, o)
		}
	}
	if len(l) < 25 {
		t.Fatal(len(l))
	}
	return l
}

// 19.1: each kind of type as a row's of a struct and of a union, two levels deep.
func TestWithin(t *testing.T) {
	base := read(t, baseText).Decls()
	for _, o := range rowTypes(t) {
		for _, a := range wraps() {
			x := a(matter{base, o})
			isMatter(t, x)
			for _, b := range wraps() {
				isMatter(t, b(x))
			}
		}
	}
}

// 19.1: some of them up to MaxDeep deep, and deeper.
func TestDeepWithin(t *testing.T) {
	base := read(t, baseText).Decls()
	n := map[int]int{}
	for i, o := range rowTypes(t) {
		for j := range len(wraps()) {
			x := matter{base, o}
			for k := range 10 {
				// Those that have it twice double it; so they do not follow each other.
				x = wraps()[[]int{j, (i + k) % 2, 3 + (j+k)%2}[k%3]](x)
				isMatter(t, x)
				n[x.depth]++
			}
		}
	}
	if n[7] == 0 || n[8] == 0 || n[0] == 0 {
		t.Fatal(n)
	}
}

// 19.1: rows of options are left out, whatever they are of; of an option by itself it is that of its type.
func TestOptions(t *testing.T) {
	base := read(t, baseText).Decls()
	for _, o := range rowTypes(t) {
		all := decl(api.DStruct, "P", field(2, "b", opt(o.x)), field(1, "a", opt(o.x)))
		one := decl(api.DStruct, "Q2", field(2, "b", opt(o.x)), field(5, "c", o.x), field(255, "d", opt(o.x)), field(1, "a", opt(tInt)))
		d := of(t, append(slices.Clone(base), all, one)...)
		is(t, d, named("P"), vStruct(nil), 1)
		is(t, d, named("Q2"), vStruct(tags(5), o.want), o.depth+1)
		x := o.x
		for range 20 {
			x = opt(x)
			if v, n := Type(d, x); n != o.depth || !value.Same(v, o.want) {
				t.Fatal(x, v, n)
			}
		}
	}
	d := read(t, "struct P { 1 p: P?; } struct L { 1 l: D?; } struct D { 1 a: C; } struct C { 1 a: P; }")
	is(t, d, named("P"), vStruct(nil), 1)
	is(t, d, named("L"), vStruct(nil), 1)
	is(t, d, named("D"), vStruct(tags(1), vStruct(tags(1), vStruct(nil))), 3)
}

// 19.1: a struct that leads back to itself through an option, a list or a map, straight or by others.
func TestBackToItself(t *testing.T) {
	d := read(t, "struct P { 3 o: P?; 1 l: list<P>; 2 m: map<text,P>; 4 q: Q; } struct Q { 1 o: P?; 2 l: list<list<P>>; 9 u: U; } union U { 1 p: P; 7 l: list<U>; }")
	u := vUnion(7, vList)
	q := vStruct(tags(2, 9), vList, u)
	is(t, d, named("U"), u, 2)
	is(t, d, named("Q"), q, 3)
	is(t, d, named("P"), vStruct(tags(1, 2, 4), vList, vMap, q), 4)
	d = read(t, "struct A { 1 b: B; } struct B { 2 c: C; } struct C { 3 a: A?; }")
	is(t, d, named("A"), vStruct(tags(1), vStruct(tags(2), vStruct(nil))), 3)
	is(t, d, named("B"), vStruct(tags(2), vStruct(nil)), 2)
	is(t, d, named("C"), vStruct(nil), 1)
}

// 19.1: rows that stand in the schema's text in another order than their tags.
func TestOrder(t *testing.T) {
	all := []api.Field{field(1, "a", tInt), field(2, "b", opt(tInt)), field(3, "c", tText), field(200, "d", named("E")), field(255, "e", tBool)}
	e := decl(api.DEnum, "E", field(8, "A", api.Type{}), field(6, "B", api.Type{}), field(7, "C", api.Type{}))
	r := rand.New(rand.NewSource(1))
	for range 200 {
		r.Shuffle(len(all), func(i, j int) { all[i], all[j] = all[j], all[i] })
		r.Shuffle(len(e.Fields), func(i, j int) { e.Fields[i], e.Fields[j] = e.Fields[j], e.Fields[i] })
		union := slices.DeleteFunc(slices.Clone(all), func(f api.Field) bool { return f.Tag == 2 })
		d := of(t, decl(api.DStruct, "P", all...), decl(api.DUnion, "U", union...), e)
		is(t, d, named("P"), vStruct(tags(1, 3, 200, 255), vInt, vText, vEnum(6), vBool), 2)
		is(t, d, named("U"), vUnion(1, vInt), 2)
		is(t, d, named("E"), vEnum(6), 1)
	}
}

// 19.1: enums of one value, and of many; the least one anywhere.
func TestEnums(t *testing.T) {
	for _, n := range []int{0, 1, 2, 5, 127, 128, 255, 256, 9998, 9999} {
		d := of(t, decl(api.DEnum, "E", field(n, "A", api.Type{})), decl(api.DStruct, "P", field(1, "e", named("E"))), decl(api.DUnion, "U", field(1, "e", named("E"))))
		is(t, d, named("E"), vEnum(int64(n)), 1)
		is(t, d, named("P"), vStruct(tags(1), vEnum(int64(n))), 2)
		is(t, d, named("U"), vUnion(1, vEnum(int64(n))), 2)
	}
	for n := 1; n <= 6; n++ {
		for at := range n {
			var l []api.Field
			for i := range n {
				l = append(l, field(10+(i+n-at)%n, "v"+fmt.Sprint(i), api.Type{}))
			}
			is(t, of(t, decl(api.DEnum, "E", l...)), named("E"), vEnum(10), 1)
		}
	}
	var l []api.Field
	for n := range 10000 {
		l = append(l, field(9999-n, "v"+fmt.Sprint(n), api.Type{}))
	}
	d := of(t, decl(api.DEnum, "E", l...), decl(api.DEnum, "F", l[:9999]...))
	is(t, d, named("E"), vEnum(0), 1)
	is(t, d, named("F"), vEnum(1), 1)
}

// chain are structs C1 to Cn: C1 is 1 deep, each other one a level deeper than the one ahead.
func chain(n int) string {
	s := "struct C1 { }"
	for i := 2; i <= n; i++ {
		s += fmt.Sprintf(" struct C%d { 1 c: C%d; }", i, i-1)
	}
	return s
}

// link is the blank value of a chain's struct.
func link(n int) api.Value {
	if n == 1 {
		return vStruct(nil)
	}
	return vStruct(tags(1), link(n-1))
}

// 19.1: unions by the least depth: the row of the least tag of those that are not too deep.
func TestUnions(t *testing.T) {
	for _, o := range []struct {
		rows  string
		want  api.Value
		depth int
	}{
		{"1 a: C1; 2 b: C1;", vUnion(1, link(1)), 2},
		{"2 a: C1; 1 b: int;", vUnion(1, vInt), 2},
		{"1 a: C2; 2 b: C1;", vUnion(2, link(1)), 2},
		{"1 a: C3; 2 b: C2; 3 c: C2;", vUnion(2, link(2)), 3},
		{"3 a: C2; 2 b: C3; 1 c: C2;", vUnion(1, link(2)), 3},
		{"5 a: C7; 4 b: C6; 3 c: C5; 2 d: C4; 1 e: C3;", vUnion(1, link(3)), 4},
		{"1 a: C7; 2 b: C6; 3 c: C5; 4 d: C4; 255 e: C3;", vUnion(255, link(3)), 4},
		{"1 a: U; 2 b: C2;", vUnion(2, link(2)), 3},
		{"1 a: C7; 2 b: U;", vUnion(1, link(7)), 8},
		{"1 a: U; 2 b: C8; 3 c: C7; 4 d: U;", vUnion(3, link(7)), 8},
		{"1 a: C8; 2 b: U;", api.Value{}, 0},
		{"1 a: C8; 2 b: C8;", api.Value{}, 0},
		{"1 a: C8; 9 b: list<C8>; 10 c: E;", vUnion(9, vList), 2},
		{"1 a: C2; 9 b: map<int,U>; 8 c: E;", vUnion(8, vEnum(4)), 2},
	} {
		d := read(t, chain(8)+" enum E { 4 A; } union U { "+o.rows+" }")
		is(t, d, named("U"), o.want, o.depth)
	}
}

// 19.1: what a struct has beside a deeper one it has by the same depth, not by the least.
func TestGreaterDepth(t *testing.T) {
	for _, o := range []struct {
		decls string
		want  func(n int) api.Value // of U, by a depth of n
	}{
		{"union U { 1 a: C3; 2 b: int; }", func(n int) api.Value {
			if n >= 4 {
				return vUnion(1, link(3))
			}
			return vUnion(2, vInt)
		}},
		{"union U { 9 b: int; 4 a: C5; 7 c: C2; }", func(n int) api.Value {
			switch {
			case n >= 6:
				return vUnion(4, link(5))
			case n >= 3:
				return vUnion(7, link(2))
			}
			return vUnion(9, vInt)
		}},
		{"union U { 1 a: C6; 2 b: C1; }", func(n int) api.Value {
			if n >= 7 {
				return vUnion(1, link(6))
			}
			return vUnion(2, link(1))
		}},
		{"union U { 1 a: C7; 2 b: C1; }", func(int) api.Value { return vUnion(2, link(1)) }},
		{"union U { 1 b: C1; 2 a: C4; }", func(int) api.Value { return vUnion(1, link(1)) }},
		{"union U { 1 u: U; 2 n: int; }", func(n int) api.Value {
			v := vUnion(2, vInt)
			for range n - 2 {
				v = vUnion(1, v)
			}
			return v
		}},
		{"union U { 5 s: T; 6 n: bool; } struct T { 2 u: U; 3 a: text; }", func(n int) api.Value {
			v := vUnion(6, vBool)
			for i := 4; i <= n; i += 2 {
				v = vUnion(5, vStruct(tags(2, 3), v, vText))
			}
			return v
		}},
		{"union U { 5 s: T; 6 n: bool; } struct T { 2 u: U; 1 v: U; }", func(n int) api.Value {
			v := vUnion(6, vBool)
			for i := 4; i <= n; i += 2 {
				v = vUnion(5, vStruct(tags(1, 2), v, v))
			}
			return v
		}},
	} {
		// Of n = 8 the struct would be 9 deep.
		for n := 2; n <= 7; n++ {
			want := o.want(n)
			d := read(t, chain(8)+o.decls+fmt.Sprintf(" struct P { 1 u: U; 2 d: C%d; 3 v: U; }", n))
			is(t, d, named("P"), vStruct(tags(1, 2, 3), want, link(n), want), n+1)
			d = read(t, chain(8)+o.decls+fmt.Sprintf(" struct P { 2 u: U; 1 d: C%d; }", n))
			is(t, d, named("P"), vStruct(tags(1, 2), link(n), want), n+1)
			// By itself, and beside what is not deep, it is by its least depth.
			is(t, d, named("U"), o.want(2), 2)
			d = read(t, chain(8)+o.decls+" struct P { 1 u: U; 2 d: int; }")
			is(t, d, named("P"), vStruct(tags(1, 2), o.want(2), vInt), 3)
		}
		d := read(t, chain(8)+o.decls+" struct P { 1 u: U; 2 d: C8; }")
		isNone(t, d, named("P"))
	}
}

// 19.1: one declaration by several depths within one value.
func TestSeveralDepths(t *testing.T) {
	d := read(t, "union U { 1 u: U; 2 n: int; } struct P { 1 a: U; 2 q: Q; } struct Q { 1 a: U; 3 r: R; } struct R { 1 a: U; 2 b: list<U>; }")
	by := func(n int) api.Value {
		v := vUnion(2, vInt)
		for range n - 2 {
			v = vUnion(1, v)
		}
		return v
	}
	r := func(n int) api.Value { return vStruct(tags(1, 2), by(n-1), vList) }
	q := func(n int) api.Value { return vStruct(tags(1, 3), by(n-1), r(n-1)) }
	is(t, d, named("R"), r(3), 3)
	is(t, d, named("Q"), q(4), 4)
	is(t, d, named("P"), vStruct(tags(1, 2), by(4), q(4)), 5)
}

// 19.1: declarations whose blank values have a depth of just MaxDeep, and those that would be a level deeper.
func TestDeep(t *testing.T) {
	leaves := []one{{tInt, vInt, 1}, {tBytes, vBytes, 1}, {list(named("D0")), vList, 1}, {table(tInt, tInt), vMap, 1}, {named("E"), vEnum(2), 1}, {named("O"), vStruct(nil), 1}, {named("I"), vStruct(tags(1), vInt), 2}, {named("U"), vUnion(3, vBool), 2}}
	base := "struct O { 1 a: int?; } enum E { 9 A; 2 B; } struct I { 1 a: int; } union U { 3 a: bool; 1 i: I; }"
	for _, leaf := range leaves {
		for kinds := range 1 << 8 {
			l := read(t, base).Decls()
			x, v := leaf.x, leaf.want
			for i := range 8 {
				kind, name := api.DStruct, fmt.Sprint("D", 7-i)
				if kinds>>i&1 == 1 {
					kind = api.DUnion
					v = vUnion(i+1, v)
				} else {
					v = vStruct(tags(i+1), v)
				}
				l = append(l, decl(kind, name, field(i+1, "x", x)))
				x = named(name)
			}
			d := of(t, l...)
			m := modelOf(l)
			for i := range 8 {
				x, n := named(fmt.Sprint("D", i)), 8-i+leaf.depth
				want := v
				if n > 8 {
					want, n = api.Value{}, 0
				}
				if got, depth := Type(d, x); depth != n || !value.Same(got, want) {
					t.Fatal(x, l, value.Text(got), depth)
				}
				heldBy(t, d, m, x)
				heldBy(t, d, m, opt(x))
				v = v.Items[0]
			}
		}
	}
}

// 19.1: a row that is too deep, at the beginning, in the midst or at the end; if it is an option, or within a list, it is not asked for.
func TestOneTooDeep(t *testing.T) {
	for at := range 5 {
		for n := 6; n <= 9; n++ {
			bare := vStruct(nil)
			rows, options, lists := "", "", ""
			for i := range 5 {
				x := "int"
				if i == at {
					x = fmt.Sprint("C", n)
				}
				rows += fmt.Sprintf(" %d r%d: %s;", i+1, i, x)
				options += fmt.Sprintf(" %d r%d: %s?;", i+1, i, x)
				lists += fmt.Sprintf(" %d r%d: list<%s>;", i+1, i, x)
				bare.Tags, bare.Items = append(bare.Tags, i+1), append(bare.Items, vList)
			}
			d := read(t, chain(9)+" struct P {"+rows+" } struct Q {"+options+" } struct R {"+lists+" }")
			is(t, d, named("Q"), vStruct(nil), 1)
			is(t, d, named("R"), bare, 2)
			if n > 7 {
				isNone(t, d, named("P"))
				continue
			}
			v := vStruct(bare.Tags, slices.Repeat([]api.Value{vInt}, 5)...)
			v.Items[at] = link(n)
			is(t, d, named("P"), v, n+1)
		}
	}
}

// 19.1: Struct by names of structs, and of all else.
func TestNames(t *testing.T) {
	d := read(t, baseText)
	for _, o := range declareds() {
		if o.x.Kind != api.TNamed {
			continue
		}
		if d.Kind(o.x.Name) == api.DStruct {
			isStruct(t, d, o.x.Name, o.want, o.depth)
		} else {
			isStruct(t, d, o.x.Name, api.Value{}, 0)
		}
		isStruct(t, nil, o.x.Name, api.Value{}, 0)
		isStruct(t, of(t), o.x.Name, api.Value{}, 0)
	}
	for _, name := range []string{"", "none such", "S", "U", "V", "E", "Z", "o", "O ", " O", "OO", "get", "int", "O\x00", "\xff"} {
		isStruct(t, d, name, api.Value{}, 0)
		isStruct(t, nil, name, api.Value{}, 0)
	}
	// Names need not be names, if the declarations were not read.
	d = of(t, decl(api.DStruct, "", field(1, "", tInt)), decl(api.DStruct, "\xff", field(3, "x", named(""))), decl(api.DUnion, "a b", field(7, "x", named("\xff"))))
	is(t, d, named(""), vStruct(tags(1), vInt), 2)
	is(t, d, named("\xff"), vStruct(tags(3), vStruct(tags(1), vInt)), 3)
	is(t, d, named("a b"), vUnion(7, vStruct(tags(3), vStruct(tags(1), vInt))), 4)
	isStruct(t, d, "a b", api.Value{}, 0)
}

// 19.1: what declarations have beside their own counts for nothing: fields of a service, types of an enum's values, methods of others.
func TestBeside(t *testing.T) {
	get := []api.Method{{Tag: 99, Name: "get", In: "P", Out: "P"}}
	s := api.Decl{Kind: api.DService, Name: "S", Fields: []api.Field{field(1, "a", tInt)}}
	e := api.Decl{Kind: api.DEnum, Name: "E", Fields: []api.Field{field(5, "a", named("none such")), field(4, "b", opt(api.Type{})), field(6, "c", tInt)}, Methods: []api.Method{{Tag: 1, Name: "m", In: "P", Out: "P"}}}
	p := api.Decl{Kind: api.DStruct, Name: "P", Fields: []api.Field{field(2, "e", named("E"))}, Methods: get}
	u := api.Decl{Kind: api.DUnion, Name: "U", Fields: []api.Field{field(3, "p", named("P"))}, Methods: get, At: 7}
	d := of(t, s, e, p, u)
	isNone(t, d, named("S"))
	isStruct(t, d, "S", api.Value{}, 0)
	is(t, d, named("E"), vEnum(4), 1)
	is(t, d, named("P"), vStruct(tags(2), vEnum(4)), 2)
	is(t, d, named("U"), vUnion(3, vStruct(tags(2), vEnum(4))), 3)
}

// few are the types of rows of TestSmallSchemas.
func few() []api.Type { return []api.Type{tBool, named("A"), named("B"), named("C"), opt(named("A"))} }

// smalls are the declarations of a name with up to two rows, of few types.
func smalls(name string) []api.Decl {
	l := []api.Decl{decl(api.DStruct, name)}
	for _, kind := range []int{api.DStruct, api.DUnion} {
		for _, a := range few() {
			if kind == api.DUnion && a.Kind == api.TOpt {
				continue
			}
			l = append(l, decl(kind, name, field(1, "a", a)))
			for _, b := range few() {
				if kind == api.DStruct || b.Kind != api.TOpt {
					l = append(l, decl(kind, name, field(2, "b", b), field(1, "a", a)))
				}
			}
		}
	}
	return l
}

// 19.1, 19.2: all ways in which three declarations of up to two rows lead to one another.
func TestSmallSchemas(t *testing.T) {
	n := map[int]int{}
	for _, a := range smalls("A") {
		for _, b := range smalls("B") {
			for _, c := range smalls("C") {
				d, f := desc.Of([]api.Decl{a, b, c})
				if f.Err != api.OK {
					continue
				}
				m := modelOf(d.Decls())
				for _, name := range []string{"A", "B", "C"} {
					v, depth := Type(d, named(name))
					want, wantDepth := m.least(named(name))
					if depth != wantDepth || depth != m.deep[name] || !value.Same(v, want) {
						t.Fatal(name, m.l, value.Text(v), depth)
					}
					n[depth]++
				}
			}
		}
	}
	if n[0] != 0 || n[1] < 1000 || n[2] < 1000 || n[3] < 1000 || n[4] < 100 {
		t.Fatal(n)
	}
}

// trees are all values up to a depth whose texts are empty, whose numbers are 0 or 1, whose lists and maps have no items, and whose tags are 1 or 2.
func trees(n int) []api.Value {
	all := []api.Value{vBool, vInt, vUint, vText, vBytes, vList, vMap, vEnum(0), vEnum(1), vStruct(nil)}
	if n == 1 {
		return all
	}
	less := trees(n - 1)
	for _, a := range less {
		all = append(all, vStruct(tags(1), a), vStruct(tags(2), a), vUnion(1, a), vUnion(2, a))
		for _, b := range less {
			all = append(all, vStruct(tags(1, 2), a, b))
		}
	}
	return all
}

// 19.2: no value of a type is less deep than its blank value, be it asked of any tree.
func TestLeast(t *testing.T) {
	r := rand.New(rand.NewSource(2))
	all := trees(3)
	n := map[int]int{}
	for range 150 {
		var l []api.Decl
		for _, name := range []string{"A", "B", "C"} {
			s := smalls(name)
			l = append(l, s[r.Intn(len(s))])
		}
		d, f := desc.Of(l)
		if f.Err != api.OK {
			continue
		}
		for _, name := range []string{"A", "B", "C"} {
			_, depth := Type(d, named(name))
			n[depth]++
			found := map[int]bool{}
			for _, v := range all {
				if fit.Fits(d, named(name), v) == api.OK {
					found[value.Deep(v)] = true
				}
			}
			for k := range 4 {
				if found[k] && k < depth || k == depth && !found[k] {
					t.Fatal(name, l, depth, found)
				}
			}
		}
	}
	if n[1] < 10 || n[2] < 10 || n[3] < 5 {
		t.Fatal(n)
	}
}

// chance makes schemas by chance.
type chance struct{ *rand.Rand }

// some is a type of a row, by the names of declarations.
func (r chance) some(l []string) api.Type {
	plain := []api.Type{tBool, tInt, tUint, tText, tBytes}
	switch r.Intn(12) {
	case 0:
		return list(r.some(l))
	case 1:
		return table(plain[r.Intn(4)], r.some(l))
	case 2, 3:
		return plain[r.Intn(5)]
	}
	return named(l[r.Intn(len(l))])
}

// decl is a declaration that leads to some of these names, often to the last one.
func (r chance) decl(name string, l []string) api.Decl {
	d := decl(api.DStruct, name)
	switch r.Intn(10) {
	case 0:
		d.Kind = api.DEnum
	case 1, 2, 3, 4:
		d.Kind = api.DUnion
	}
	n := 1 + r.Intn(3)
	for _, tag := range r.Perm(20)[:n] {
		f := field(tag+1, "f"+fmt.Sprint(tag), api.Type{})
		if d.Kind != api.DEnum {
			f.Type = r.some(l)
			if r.Intn(3) > 0 {
				f.Type = named(l[len(l)-1])
			}
			if d.Kind == api.DStruct && r.Intn(5) == 0 {
				f.Type = opt(f.Type)
			}
		}
		d.Fields = append(d.Fields, f)
	}
	return d
}

// schema is a schema of up to so many declarations, and the names of them.
func (r chance) schema(most int) (*desc.Desc, []string) {
	most = 1 + r.Intn(most)
	for {
		l := []api.Decl{r.decl("D0", []string{"D0"})}
		names := []string{"D0"}
		for i := 1; i < most; i++ {
			name := "D" + fmt.Sprint(i)
			l = append(l, r.decl(name, append([]string{name}, names...)))
			names = append(names, name)
		}
		// Some rows lead to any declaration.
		for i := range l {
			for j, f := range l[i].Fields {
				if f.Type.Kind == api.TNamed && r.Intn(6) == 0 {
					l[i].Fields[j].Type = named(names[r.Intn(len(names))])
				}
			}
		}
		if d, f := desc.Of(l); f.Err == api.OK {
			return d, names
		}
	}
}

// 19.1, 19.2: schemas by chance.
func TestByChance(t *testing.T) {
	n := map[int]int{}
	r := chance{rand.New(rand.NewSource(3))}
	for range 6000 {
		d, names := r.schema(14)
		m := modelOf(d.Decls())
		for _, name := range names {
			n[heldBy(t, d, m, named(name))]++
		}
		heldBy(t, d, m, opt(r.some(names)))
	}
	for i := range 9 {
		if n[i] < 100 {
			t.Fatal(n)
		}
	}
}

// memory is a piece of memory that a list has, to its capacity's end.
type memory struct{ from, size uintptr }

// lists are the pieces of memory of all lists in a tree.
func lists(v api.Value) []memory {
	l := []memory{
		{uintptr(unsafe.Pointer(unsafe.SliceData(v.Tags))), uintptr(cap(v.Tags)) * unsafe.Sizeof(0)},
		{uintptr(unsafe.Pointer(unsafe.SliceData(v.Items))), uintptr(cap(v.Items)) * unsafe.Sizeof(v)},
	}
	for _, x := range v.Items {
		l = append(l, lists(x)...)
	}
	return slices.DeleteFunc(l, func(m memory) bool { return m.size == 0 })
}

// apart tells whether no two pieces of memory share anything.
func apart(l []memory) bool {
	l = slices.Clone(l)
	slices.SortFunc(l, func(a, b memory) int { return int(a.from) - int(b.from) })
	for i := 1; i < len(l); i++ {
		if l[i-1].from+l[i-1].size > l[i].from {
			return false
		}
	}
	return true
}

// spoil makes everything in a tree's lists another thing, behind their ends, too.
func spoil(v api.Value) {
	for i := range v.Tags[:cap(v.Tags)] {
		v.Tags[:cap(v.Tags)][i] = -7
	}
	for i, x := range v.Items[:cap(v.Items)] {
		spoil(x)
		v.Items[:cap(v.Items)][i] = api.Value{Kind: -7, Text: "spoilt"}
	}
}

// asked are a schema whose blank values have the same parts several times, and types that may be asked of it.
func asked(t *testing.T) (*desc.Desc, []api.Type) {
	d := read(t, "struct P { 1 a: Q; 2 b: Q; 3 u: U; 4 v: U; 5 e: E; 6 o: O; 7 w: U; } struct Q { 1 a: int; 2 b: I; 3 c: I; } struct I { 1 i: list<I>; 2 o: O; } struct O { } union U { 1 u: U; 2 i: I; } enum E { 3 A; 2 B; }")
	return d, []api.Type{named("P"), named("Q"), named("I"), named("O"), named("U"), named("E"), opt(named("P")), opt(named("U")), list(named("P")), tText}
}

// R4: what is told is own memory: no two lists of an answer share any, and none is a list of another answer, or of the schema; whatever becomes of it, the answers stay the same.
func TestOwnMemory(t *testing.T) {
	d, types := asked(t)
	var all []memory
	var kept []api.Value
	rows := d.Rows("P")
	for range 3 {
		for _, x := range types {
			v, n := Type(d, x)
			all = append(all, lists(v)...)
			kept = append(kept, v)
			if w, depth := Type(d, x); depth != n || !value.Same(v, w) {
				t.Fatal(x, w, depth)
			}
			if x.Kind == api.TNamed {
				w, _ := Struct(d, x.Name)
				all = append(all, lists(w)...)
				kept = append(kept, w)
			}
		}
	}
	if len(all) < 200 || !apart(all) {
		t.Fatal(len(all))
	}
	ahead := d.Decls()
	for _, v := range kept {
		spoil(v)
		for _, x := range types {
			held(t, d, x)
		}
	}
	if !reflect.DeepEqual(d.Decls(), ahead) || !reflect.DeepEqual(d.Rows("P"), rows) {
		t.Fatal(d.Decls())
	}
}

// R4: a type that is handed in stays as it was, with what lies behind its lists' ends, and is not kept.
func TestTypeStays(t *testing.T) {
	d := read(t, baseText)
	for _, o := range slices.Concat(fine(), []one{{opt(named("K")), api.Value{}, 0}, {opt(opt(opt(tInt))), api.Value{}, 0}}) {
		behind := append(make([]api.Type, 0, 4), o.x)
		behind = append(behind, named("S"), made(api.TOpt, tInt))[:1]
		x := api.Type{Kind: api.TOpt, Of: behind}
		ahead := wholeType(x)
		v, n := Type(d, x)
		if !reflect.DeepEqual(wholeType(x), ahead) {
			t.Fatal(x, ahead)
		}
		copied := wholeValue(v)
		behind[0] = named("U")
		if w, depth := Type(d, o.x); depth != n || !value.Same(w, copied) || !value.Same(v, copied) {
			t.Fatal(o, w, depth)
		}
	}
}

// wholeValue is a value in memory of its own.
func wholeValue(v api.Value) api.Value {
	v.Tags, v.Items = slices.Clone(v.Tags), slices.Clone(v.Items)
	for i, x := range v.Items {
		v.Items[i] = wholeValue(x)
	}
	return v
}

// R4: nothing is kept from call to call: schemas of the same names have each their own.
func TestNotKept(t *testing.T) {
	a := read(t, "struct P { 1 u: U; } union U { 1 a: int; 2 b: text; } enum E { 1 A; }")
	b := read(t, "struct P { 2 u: U; 3 e: E; } union U { 2 a: O; 1 b: I; } struct O { } struct I { 1 a: int; } enum E { 2 A; }")
	for range 3 {
		is(t, a, named("P"), vStruct(tags(1), vUnion(1, vInt)), 3)
		is(t, b, named("P"), vStruct(tags(2, 3), vUnion(2, vStruct(nil)), vEnum(2)), 3)
		is(t, a, named("E"), vEnum(1), 1)
		is(t, b, named("E"), vEnum(2), 1)
		isNone(t, a, named("O"))
		isNone(t, nil, named("P"))
	}
}

// answer is what is told of a type, as a text.
func answer(d *desc.Desc, x api.Type) string {
	v, n := Type(d, x)
	w, k := Struct(d, x.Name)
	return fmt.Sprint(value.Text(v), n, value.Text(w), k)
}

// R5: the same is answered each time, whichever is asked first.
func TestAnyOrder(t *testing.T) {
	_, types := asked(t)
	var want []string
	for _, x := range types {
		d, _ := asked(t)
		want = append(want, answer(d, x))
	}
	r := rand.New(rand.NewSource(4))
	for range 100 {
		d, _ := asked(t)
		for range 20 {
			i := r.Intn(len(types))
			if s := answer(d, types[i]); s != want[i] {
				t.Fatal(types[i], s, want[i])
			}
		}
	}
}

// R5: whoever asks at the same time is answered the same.
func TestAtOnce(t *testing.T) {
	for range 30 {
		d, types := asked(t)
		other, _ := asked(t)
		var w sync.WaitGroup
		for i := range 16 {
			w.Go(func() {
				x := types[i%len(types)]
				if s, want := answer(d, x), answer(other, x); s != want {
					t.Error(x, s, want)
				}
			})
		}
		w.Wait()
	}
}

// wide is the declarations of levels D0 to Dn of so many rows each, every one of them of the next level; the last level's are of a type.
func wide(kind, levels, rows int, last api.Type) []api.Decl {
	var l []api.Decl
	for i := range levels {
		d := decl(kind, fmt.Sprint("D", i))
		for j := range rows {
			x := named(fmt.Sprint("D", i+1))
			if i == levels-1 {
				x = last
			}
			d.Fields = append(d.Fields, field(rows-j, fmt.Sprint("r", j), x))
		}
		l = append(l, d)
	}
	return l
}

// size is how many values are in a tree.
func size(v api.Value) int {
	n := 1
	for _, x := range v.Items {
		n += size(x)
	}
	return n
}

// R1: structs of many rows within each other: those that have a blank value, and those whose rows are too deep: of these nothing is made, as it would have no end.
func TestWide(t *testing.T) {
	d := of(t, wide(api.DStruct, 4, 16, tInt)...)
	if v, n := Struct(d, "D0"); n != 5 || size(v) != 1+16+16*16+16*16*16+16*16*16*16 || fit.Struct(d, "D0", v) != api.OK {
		t.Fatal(n, size(v))
	}
	d = of(t, wide(api.DStruct, 2, 255, tBytes)...)
	if v, n := Struct(d, "D0"); n != 3 || size(v) != 1+255+255*255 || fit.Struct(d, "D0", v) != api.OK {
		t.Fatal(n, size(v))
	}
	l := wide(api.DStruct, 9, 255, tInt)
	d = of(t, l...)
	isStruct(t, d, "D0", api.Value{}, 0)
	// Of these the last row alone is too deep; the others have blank values, of which there would be very many.
	deep := wide(api.DStruct, 9, 1, tInt)
	for i := range 6 {
		deep[i].Fields[0].Tag = 255
		w := decl(api.DStruct, fmt.Sprint("W", i))
		for j := range 200 {
			x := named(fmt.Sprint("W", i+1))
			deep[i].Fields = append(deep[i].Fields, field(1+j, fmt.Sprint("s", j), x))
			w.Fields = append(w.Fields, field(1+j, fmt.Sprint("s", j), x))
		}
		deep = append(deep, w)
	}
	deep = append(deep, decl(api.DStruct, "W6", field(1, "n", tInt)))
	d = of(t, deep...)
	isStruct(t, d, "D0", api.Value{}, 0)
	isStruct(t, d, "D1", api.Value{}, 0)
	isStruct(t, d, "W5", vStruct(rising(), slices.Repeat([]api.Value{vStruct(tags(1), vInt)}, 200)...), 3)
}

// rising are the tags from 1 to 200.
func rising() []int {
	var l []int
	for i := range 200 {
		l = append(l, i+1)
	}
	return l
}

// R1: unions of many rows, all of which lead to the same ones; many ways, but few declarations.
func TestManyWays(t *testing.T) {
	for _, n := range []int{7, 8} {
		l := wide(api.DUnion, n, 255, named("O"))
		l = append(l, decl(api.DStruct, "O"))
		want, depth := vStruct(nil), 0
		if n == 7 {
			for range n {
				want = vUnion(1, want)
			}
			depth = n + 1
		} else {
			want = api.Value{}
		}
		is(t, of(t, l...), named("D0"), want, depth)
	}
	// Each of them leads to all of them; one has a row that does not.
	var l []api.Decl
	for i := range 250 {
		d := decl(api.DUnion, fmt.Sprint("D", i))
		for j := range 250 {
			d.Fields = append(d.Fields, field(j+1, fmt.Sprint("r", j), named(fmt.Sprint("D", j))))
		}
		l = append(l, d)
	}
	l[249].Fields = append(l[249].Fields, field(255, "n", tInt))
	d := of(t, l...)
	last := vUnion(255, vInt)
	if v, n := Type(d, named("D249")); n != 2 || !value.Same(v, last) {
		t.Fatal(value.Text(v), n)
	}
	if v, n := Type(d, named("D0")); n != 3 || !value.Same(v, vUnion(250, last)) {
		t.Fatal(value.Text(v), n)
	}
}

// R1: schemas of many declarations.
func TestMany(t *testing.T) {
	l := []api.Decl{decl(api.DStruct, "D0")}
	for i := 1; i < 1<<12; i++ {
		l = append(l, decl(api.DStruct, fmt.Sprint("D", i), field(1+i%255, "d", named(fmt.Sprint("D", i-1)))))
	}
	d := of(t, l...)
	for i := range l {
		n, want := i+1, vStruct(nil)
		for j := 1; j <= i && n <= 8; j++ {
			want = vStruct(tags(1+j%255), want)
		}
		if n > 8 {
			n, want = 0, api.Value{}
		}
		isStruct(t, d, fmt.Sprint("D", i), want, n)
	}
}

// R1: options within many others; one that has itself within it ends, too.
func TestEndless(t *testing.T) {
	d := read(t, baseText)
	for _, n := range []int{1, 1000, 1<<16 - 1, 1 << 16} {
		x, y, z := named("K"), named("S"), list(tInt)
		for range n {
			x, y, z = opt(x), opt(y), opt(z)
		}
		if v, n := Type(d, x); n != 3 || fit.Fits(d, named("K"), v) != api.OK {
			t.Fatal(v, n)
		}
		if v, n := Type(d, y); n != 0 || !value.Same(v, api.Value{}) {
			t.Fatal(v, n)
		}
		if v, n := Type(d, z); n != 1 || !value.Same(v, vList) {
			t.Fatal(v, n)
		}
	}
	for _, kind := range []int{api.TOpt, api.TList} {
		x := made(kind, api.Type{})
		x.Of[0] = x
		want, depth := api.Value{}, 0
		if kind == api.TList {
			want, depth = vList, 1
		}
		if v, n := Type(d, x); n != depth || !value.Same(v, want) {
			t.Fatal(kind, v, n)
		}
		if v, n := Type(d, table(x, x)); n != 1 || !value.Same(v, vMap) {
			t.Fatal(kind, v, n)
		}
	}
}

// R1: any text that is a schema, and any type and name.
func FuzzBlank(f *testing.F) {
	for _, s := range []string{baseText, chain(9), "union U { 1 u: U; 2 n: int; }", "enum E { 3 A; 1 B; }"} {
		f.Add(s, api.TNamed, "P", 1)
		f.Add(s, api.TOpt, "C1", 0)
	}
	f.Fuzz(func(t *testing.T, s string, kind int, name string, n int) {
		d, fault := desc.Read(s)
		if fault.Err != api.OK || len(s) > 600 || strings.Count(s, ";") > 60 {
			return
		}
		m := modelOf(d.Decls())
		for _, x := range m.l {
			heldBy(t, d, m, named(x.Name))
		}
		x := api.Type{Kind: kind, Name: name}
		for range max(0, min(n, 4)) {
			x.Of = append(x.Of, named(name))
		}
		heldBy(t, d, m, x)
		heldBy(t, d, m, opt(x))
	})
}
