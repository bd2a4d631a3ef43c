package fit

import (
	"fmt"
	"math"
	"math/rand"
	"reflect"
	"slices"
	"sync"
	"testing"

	"concourse/api"
	"concourse/compat"
	"concourse/desc"
	"concourse/value"
)

// The types that a word alone tells, in short.
var (
	tBool  = api.Type{Kind: api.TBool}
	tInt   = api.Type{Kind: api.TInt}
	tUint  = api.Type{Kind: api.TUint}
	tText  = api.Type{Kind: api.TText}
	tBytes = api.Type{Kind: api.TBytes}
)

// made is a type of a kind, of these types.
func made(kind int, of ...api.Type) api.Type { return api.Type{Kind: kind, Of: of} }
func named(s string) api.Type                { return api.Type{Kind: api.TNamed, Name: s} }
func list(x api.Type) api.Type               { return made(api.TList, x) }
func table(k, v api.Type) api.Type           { return made(api.TMap, k, v) }
func opt(x api.Type) api.Type                { return made(api.TOpt, x) }

func field(n int, s string, x api.Type) api.Field { return api.Field{Tag: n, Name: s, Type: x} }

func decl(kind int, name string, l ...api.Field) api.Decl {
	return api.Decl{Kind: kind, Name: name, Fields: l}
}

func vBool(n int64) api.Value        { return api.Value{Kind: api.VBool, Num: n} }
func vInt(n int64) api.Value         { return api.Value{Kind: api.VInt, Num: n} }
func vUint(n uint64) api.Value       { return api.Value{Kind: api.VUint, Num: int64(n)} }
func vEnum(n int64) api.Value        { return api.Value{Kind: api.VEnum, Num: n} }
func vText(s string) api.Value       { return api.Value{Kind: api.VText, Text: s} }
func vBytes(s string) api.Value      { return api.Value{Kind: api.VBytes, Text: s} }
func vList(l ...api.Value) api.Value { return api.Value{Kind: api.VList, Items: l} }
func vMap(l ...api.Value) api.Value  { return api.Value{Kind: api.VMap, Items: l} }
func vUnion(n int, v api.Value) api.Value {
	return api.Value{Kind: api.VUnion, Tags: []int{n}, Items: []api.Value{v}}
}

func vStruct(tags []int, l ...api.Value) api.Value {
	return api.Value{Kind: api.VStruct, Tags: tags, Items: l}
}

func tags(l ...int) []int { return l }

// read is the schema of a text that is one.
func read(t *testing.T, s string) *desc.Desc {
	t.Helper()
	d, f := desc.Read(s)
	if f != (api.Fault{}) {
		t.Fatalf("%q: %v", s, f)
	}
	return d
}

// of is the schema of declarations that may be.
func of(t *testing.T, l ...api.Decl) *desc.Desc {
	t.Helper()
	d, f := desc.Of(l)
	if f != (api.Fault{}) {
		t.Fatalf("%v: %v", l, f)
	}
	return d
}

// is asks whether just this is told of a value, and of a type.
func is(t *testing.T, want api.Errno, d *desc.Desc, x api.Type, v api.Value) {
	t.Helper()
	if e := Fits(d, x, v); e != want {
		t.Fatalf("Fits of %v and %v: %v, not %v", x, v, e, want)
	}
	held(t, d, x, v)
}

// isStruct asks whether just this is told of a struct's name, and of a value.
func isStruct(t *testing.T, want api.Errno, d *desc.Desc, name string, v api.Value) {
	t.Helper()
	if e := Struct(d, name, v); e != want {
		t.Fatalf("Struct of %q and %v: %v, not %v", name, v, e, want)
	}
	held(t, d, named(name), v)
}

// The chapter's example.
func TestExample(t *testing.T) {
	is(t, api.OK, nil, tInt, vInt(1))
	is(t, api.ErrKind, nil, tText, vInt(1))
}

const baseText = "struct P { 1 a: int; 3 b: text?; 4 c: list<E>?; 9 d: U?; } struct O { } struct R { 1 r: R?; 2 l: list<R>?; 3 m: map<int,R>?; 4 v: V?; }" +
	" union U { 2 n: int; 5 p: P; 7 e: E; } union V { 1 r: R; 2 e: E; 3 v: V; } enum E { 0 A; 5 B; 9999 C; } service S { 1 get(P): O; }" +
	" struct K { 1 a: bool; 2 b: int; 3 c: uint; 4 d: text; 5 e: bytes; 6 f: E; 7 g: P; 8 h: U; 9 i: list<int>; 10 j: map<text,int>; }"

// one is a type of baseText's schema, or of those that follow, a value, and what is told of them.
type one struct {
	x    api.Type
	v    api.Value
	want api.Errno
}

// fine are values of each kind that are of a type.
func fine() []one {
	e, p, o, r, u, v := named("E"), named("P"), named("O"), named("R"), named("U"), named("V")
	a := vStruct(tags(1), vInt(4))
	return []one{
		{tBool, vBool(0), api.OK},
		{tBool, vBool(1), api.OK},
		{tInt, vInt(0), api.OK},
		{tInt, vInt(math.MinInt64), api.OK},
		{tUint, vUint(0), api.OK},
		{tUint, vUint(math.MaxUint64), api.OK},
		{tText, vText(""), api.OK},
		{tText, vText("a\u20ac"), api.OK},
		{tBytes, vBytes(""), api.OK},
		{tBytes, vBytes("a\xff"), api.OK},
		{opt(tInt), vInt(5), api.OK},
		{opt(opt(tInt)), vInt(5), api.OK},
		{opt(opt(opt(e))), vEnum(5), api.OK},
		{list(tInt), vList(), api.OK},
		{list(tInt), vList(vInt(1), vInt(-1), vInt(1)), api.OK},
		{list(list(tText)), vList(vList(), vList(vText("a"))), api.OK},
		{list(opt(tBool)), vList(vBool(0), vBool(1)), api.OK},
		{table(tInt, tText), vMap(), api.OK},
		{table(tInt, tText), vMap(vInt(1), vText("a"), vInt(2), vText("")), api.OK},
		{table(tText, tInt), vMap(vText(""), vInt(1), vText("b"), vInt(1)), api.OK},
		{table(tBool, table(tUint, tBytes)), vMap(vBool(0), vMap(), vBool(1), vMap(vUint(1), vBytes("\xff"))), api.OK},
		{table(e, e), vMap(vEnum(0), vEnum(5), vEnum(9999), vEnum(0)), api.OK},
		{table(opt(tInt), opt(p)), vMap(vInt(1), a), api.OK},
		{e, vEnum(0), api.OK},
		{e, vEnum(5), api.OK},
		{e, vEnum(9999), api.OK},
		{p, a, api.OK},
		{p, vStruct(tags(1, 3), vInt(4), vText("")), api.OK},
		{p, vStruct(tags(1, 4), vInt(4), vList(vEnum(5), vEnum(0), vEnum(5))), api.OK},
		{p, vStruct(tags(1, 3, 4, 9), vInt(4), vText("a"), vList(), vUnion(5, a)), api.OK},
		{o, vStruct(nil), api.OK},
		{u, vUnion(2, vInt(-1)), api.OK},
		{u, vUnion(5, a), api.OK},
		{u, vUnion(7, vEnum(9999)), api.OK},
		{r, vStruct(nil), api.OK},
		{r, vStruct(tags(1), vStruct(tags(1), vStruct(nil))), api.OK},
		{r, vStruct(tags(1, 2, 3), vStruct(nil), vList(vStruct(nil), vStruct(tags(2), vList())), vMap(vInt(2), vStruct(nil))), api.OK},
		{r, vStruct(tags(4), vUnion(1, vStruct(tags(4), vUnion(2, vEnum(5))))), api.OK},
		{v, vUnion(3, vUnion(3, vUnion(2, vEnum(0)))), api.OK},
	}
}

// notFine are values that are not of a type.
func notFine() []one {
	e, p, o, r, u, s := named("E"), named("P"), named("O"), named("R"), named("U"), named("S")
	a := vStruct(tags(1), vInt(4))
	return []one{
		{opt(tInt), vUint(5), api.ErrKind},
		{opt(opt(tInt)), vText(""), api.ErrKind},
		{opt(opt(e)), vEnum(4), api.ErrTag},
		{list(tInt), vMap(), api.ErrKind},
		{list(tInt), vStruct(nil), api.ErrKind},
		{list(tInt), vInt(1), api.ErrKind},
		{list(tInt), vList(vInt(1), vUint(1)), api.ErrKind},
		{list(tInt), vList(vBool(1), vInt(1)), api.ErrKind},
		{list(list(tText)), vList(vList(), vList(vText("a"), vBytes("a"))), api.ErrKind},
		{list(list(tText)), vList(vText("a")), api.ErrKind},
		{list(opt(tBool)), vList(vBool(0), vInt(1)), api.ErrKind},
		{list(e), vList(vEnum(0), vEnum(1)), api.ErrTag},
		{table(tInt, tText), vList(), api.ErrKind},
		{table(tInt, tText), vStruct(tags(1), vText("a")), api.ErrKind},
		{table(tInt, tText), vMap(vText("a"), vInt(1)), api.ErrKind},
		{table(tInt, tText), vMap(vInt(1), vText("a"), vInt(2), vInt(2)), api.ErrKind},
		{table(tInt, tText), vMap(vUint(1), vText("a")), api.ErrKind},
		{table(tText, tInt), vMap(vText("a"), vText("b")), api.ErrKind},
		{table(list(tInt), tInt), vMap(vInt(1), vInt(1)), api.ErrKind},
		{table(e, e), vMap(vEnum(1), vEnum(5)), api.ErrTag},
		{table(e, e), vMap(vEnum(0), vEnum(5), vEnum(5), vEnum(6)), api.ErrTag},
		{table(e, e), vMap(vInt(0), vEnum(5)), api.ErrKind},
		{e, vEnum(1), api.ErrTag},
		{e, vEnum(4), api.ErrTag},
		{e, vEnum(6), api.ErrTag},
		{e, vEnum(9998), api.ErrTag},
		{e, vInt(0), api.ErrKind},
		{e, vUint(5), api.ErrKind},
		{e, vBool(0), api.ErrKind},
		{tInt, vEnum(0), api.ErrKind},
		{p, vStruct(nil), api.ErrNone},
		{p, vStruct(tags(3), vText("a")), api.ErrNone},
		{p, vStruct(tags(3, 4, 9), vText("a"), vList(), vUnion(2, vInt(1))), api.ErrNone},
		{p, vStruct(tags(2), vInt(4)), api.ErrTag},
		{p, vStruct(tags(1, 2), vInt(4), vInt(4)), api.ErrTag},
		{p, vStruct(tags(1, 255), vInt(4), vInt(4)), api.ErrTag},
		{p, vStruct(tags(1, 3, 10), vInt(4), vText(""), vInt(4)), api.ErrTag},
		{p, vStruct(tags(1), vUint(4)), api.ErrKind},
		{p, vStruct(tags(1, 3), vInt(4), vBytes("")), api.ErrKind},
		{p, vStruct(tags(1, 4), vInt(4), vList(vEnum(5), vInt(0))), api.ErrKind},
		{p, vStruct(tags(1, 4), vInt(4), vList(vEnum(5), vEnum(1))), api.ErrTag},
		{p, vStruct(tags(1, 9), vInt(4), vUnion(5, vStruct(nil))), api.ErrNone},
		{p, vUnion(1, vInt(4)), api.ErrKind},
		{p, vList(vInt(4)), api.ErrKind},
		{p, vMap(vInt(1), vInt(4)), api.ErrKind},
		{o, vStruct(tags(1), vInt(4)), api.ErrTag},
		{o, vList(), api.ErrKind},
		{u, vUnion(1, vInt(1)), api.ErrTag},
		{u, vUnion(255, vInt(1)), api.ErrTag},
		{u, vUnion(2, vUint(1)), api.ErrKind},
		{u, vUnion(5, vInt(1)), api.ErrKind},
		{u, vUnion(5, vStruct(nil)), api.ErrNone},
		{u, vUnion(7, vEnum(2)), api.ErrTag},
		{u, vStruct(tags(2), vInt(1)), api.ErrKind},
		{u, vStruct(tags(2, 5, 7), vInt(1), a, vEnum(0)), api.ErrKind},
		{r, vStruct(tags(1), vStruct(tags(1), vStruct(tags(5), vInt(1)))), api.ErrTag},
		{r, vStruct(tags(2), vList(vStruct(nil), vStruct(tags(2), vStruct(nil)))), api.ErrKind},
		{s, vInt(1), api.ErrType},
		{s, vStruct(nil), api.ErrType},
		{s, vStruct(tags(1), vInt(1)), api.ErrType},
		{named("Z"), vStruct(nil), api.ErrType},
		{named("p"), a, api.ErrType},
		{named(""), vEnum(0), api.ErrType},
		{api.Type{}, vInt(1), api.ErrType},
		{made(api.TList), vList(vInt(1)), api.ErrType},
		{made(api.TOpt), vInt(1), api.ErrType},
		{table(tInt, s), vMap(vInt(1), vStruct(nil)), api.ErrType},
	}
}

// ill are values that are none, with types of their kinds.
func ill() []one {
	p := named("P")
	return []one{
		{tBool, vBool(2), api.ErrForm},
		{named("E"), vEnum(10000), api.ErrForm},
		{named("E"), vEnum(-1), api.ErrForm},
		{named("E"), vEnum(1<<32 + 5), api.ErrForm},
		{tText, vText("\xff"), api.ErrForm},
		{tInt, api.Value{Kind: api.VInt, Text: "a"}, api.ErrForm},
		{tInt, api.Value{}, api.ErrForm},
		{tBytes, api.Value{Kind: api.VBytes, Num: 1}, api.ErrForm},
		{list(tInt), api.Value{Kind: api.VList, Tags: tags(1), Items: []api.Value{vInt(1)}}, api.ErrForm},
		{list(tBool), vList(vBool(1), vBool(2)), api.ErrForm},
		{table(tInt, tInt), vMap(vInt(1)), api.ErrForm},
		{table(tInt, tInt), vMap(vInt(2), vInt(2), vInt(1), vInt(1)), api.ErrForm},
		{table(tInt, tInt), vMap(vInt(1), vInt(2), vInt(1), vInt(1)), api.ErrForm},
		{table(tBytes, tInt), vMap(vBytes("a"), vInt(2)), api.ErrForm},
		{table(p, tInt), vMap(vStruct(tags(1), vInt(1)), vInt(2)), api.ErrForm},
		{p, vStruct(tags(0, 1), vInt(1), vInt(1)), api.ErrForm},
		{p, vStruct(tags(1, 256), vInt(1), vInt(1)), api.ErrForm},
		{p, vStruct(tags(3, 1), vText(""), vInt(1)), api.ErrForm},
		{p, vStruct(tags(1, 1), vInt(1), vInt(1)), api.ErrForm},
		{p, vStruct(tags(1)), api.ErrForm},
		{p, vStruct(nil, vInt(1)), api.ErrForm},
		{named("U"), vStruct(tags(2, 7), vInt(1)), api.ErrForm},
		{named("U"), api.Value{Kind: api.VUnion}, api.ErrForm},
		{named("U"), api.Value{Kind: api.VUnion, Tags: tags(2, 7), Items: []api.Value{vInt(1), vEnum(5)}}, api.ErrForm},
		{named("U"), vUnion(2, vBool(2)), api.ErrForm},
		{api.Type{}, api.Value{}, api.ErrForm},
		{named("Z"), vBool(2), api.ErrForm},
	}
}

func ones() []one { return slices.Concat(fine(), notFine(), ill()) }

// 16.1: values of each kind, with types that they are of, and with others.
func TestOnes(t *testing.T) {
	d := read(t, baseText)
	for _, o := range ones() {
		is(t, o.want, d, o.x, o.v)
		if o.x.Kind == api.TNamed && d.Kind(o.x.Name) == api.DStruct {
			isStruct(t, o.want, d, o.x.Name, o.v)
		}
	}
}

// 16.1: each value of them with each type of them.
func TestEachOther(t *testing.T) {
	d := read(t, baseText)
	told := map[api.Errno]int{}
	for _, o := range ones() {
		for _, other := range ones() {
			told[held(t, d, o.x, other.v)]++
		}
	}
	for _, e := range []api.Errno{api.OK, api.ErrForm, api.ErrKind, api.ErrTag, api.ErrNone, api.ErrType} {
		if told[e] < 50 {
			t.Fatal(told)
		}
	}
}

// 16.1: each type that a word alone tells, and a value of each kind.
func TestWords(t *testing.T) {
	d := read(t, baseText)
	kinds := []api.Value{vBool(1), vInt(1), vUint(1), vText("a"), vBytes("a"), vEnum(5), vList(), vMap(), vStruct(nil), vUnion(2, vInt(1))}
	types := []api.Type{tBool, tInt, tUint, tText, tBytes, named("E"), list(tInt), table(tInt, tInt), named("O"), named("U")}
	for i, x := range types {
		for j, v := range kinds {
			want := api.ErrKind
			if i == j {
				want = api.OK
			}
			is(t, want, d, x, v)
			is(t, want, d, opt(x), v)
			is(t, want, d, opt(opt(x)), v)
			is(t, want, d, list(x), vList(v))
			is(t, want, d, table(tInt, x), vMap(vInt(1), v))
			if i < 5 {
				is(t, want, nil, x, v)
			}
		}
	}
}

// told is a schema's declarations, a type of it, a value, and what is told of them.
type told struct {
	l []api.Decl
	one
}

// declared is the same with one declaration more, of a name of its own, whose rows are of the types; the type is that declaration's.
func (o told) declared(kind int, v api.Value, want api.Errno, rows ...api.Field) told {
	name := "W" + string(rune('a'+len(o.l)))
	return told{append(slices.Clone(o.l), decl(kind, name, rows...)), one{named(name), v, want}}
}

// wraps put a type and its value within others; what is told stays the same, if they may be.
func wraps() []func(o told) told {
	within := func(x api.Type, v api.Value) func(o told) told {
		return func(o told) told { return told{o.l, one{x, v, o.want}} }
	}
	return []func(o told) told{
		func(o told) told { return within(opt(o.x), o.v)(o) },
		func(o told) told { return within(opt(opt(o.x)), o.v)(o) },
		func(o told) told { return within(list(o.x), vList(o.v))(o) },
		func(o told) told { return within(list(o.x), vList(o.v, o.v, o.v))(o) },
		func(o told) told { return within(list(opt(o.x)), vList(o.v))(o) },
		func(o told) told { return within(table(tInt, o.x), vMap(vInt(-3), o.v))(o) },
		func(o told) told { return within(table(named("E"), o.x), vMap(vEnum(0), o.v, vEnum(5), o.v))(o) },
		func(o told) told {
			v := vStruct(tags(2, 6, 8), vInt(1), o.v, vText("a"))
			return o.declared(api.DStruct, v, o.want, field(8, "z", opt(tText)), field(6, "x", o.x), field(2, "a", tInt))
		},
		func(o told) told {
			v := vStruct(tags(6), o.v)
			return o.declared(api.DStruct, v, o.want, field(3, "a", opt(tInt)), field(6, "x", opt(o.x)), field(9, "b", opt(tInt)))
		},
		func(o told) told {
			v := vUnion(255, o.v)
			return o.declared(api.DUnion, v, o.want, field(1, "a", tInt), field(255, "x", o.x))
		},
	}
}

// keyed puts a type and its value within a map, as its keys.
func keyed(o told) told {
	return told{o.l, one{table(o.x, tBool), vMap(o.v, vBool(0)), o.want}}
}

// isTold asks whether just this is told, if the declarations may be.
func isTold(t *testing.T, o told) bool {
	t.Helper()
	d, f := desc.Of(o.l)
	if f != (api.Fault{}) {
		return false
	}
	if o.want != api.ErrForm && value.Deep(o.v) > api.MaxDeep {
		o.want = api.ErrDeep
	}
	is(t, o.want, d, o.x, o.v)
	return true
}

// mayBeKey tells whether a value may be a map's key.
func mayBeKey(v api.Value) bool {
	return slices.Contains([]int{api.VBool, api.VInt, api.VUint, api.VText, api.VEnum}, v.Kind)
}

// 16.1: each of them within lists, maps, options, structs and unions, two levels deep, and keys of maps.
func TestWithin(t *testing.T) {
	base := read(t, baseText).Decls()
	n := 0
	for _, o := range ones() {
		bare := told{base, o}
		if mayBeKey(o.v) && !isTold(t, keyed(bare)) {
			t.Fatal(o)
		}
		for _, a := range wraps() {
			if isTold(t, a(bare)) {
				n++
			}
			for _, b := range wraps() {
				if isTold(t, b(a(bare))) {
					n++
				}
			}
			if mayBeKey(o.v) {
				isTold(t, a(keyed(bare)))
			}
		}
	}
	if n < 7000 {
		t.Fatal(n)
	}
}

// 16.1: some of them four levels deep.
func TestDeepWithin(t *testing.T) {
	base := read(t, baseText).Decls()
	deeps := 0
	for i, o := range ones() {
		all := wraps()
		for j := range 150 {
			x := told{base, o}
			for _, k := range []int{j, j / 3, i + j/10, j * 7} {
				x = all[k%len(all)](x)
			}
			if isTold(t, x) && Fits(of(t, x.l...), x.x, x.v) == api.ErrDeep {
				deeps++
			}
		}
	}
	if deeps == 0 {
		t.Fatal("none was too deep")
	}
}

// 16.1: a struct with any of its rows, and none other: what is missing is told, if it must be there.
func TestRows(t *testing.T) {
	d := read(t, "struct P { 7 d: text; 1 a: int; 5 c: bool?; 3 b: int?; 255 f: P?; 9 e: uint; }")
	all := []int{1, 3, 5, 7, 9, 255}
	must := []int{1, 7, 9}
	whole := vStruct(tags(1, 7, 9), vInt(1), vText(""), vUint(0))
	items := map[int]api.Value{1: vInt(1), 3: vInt(2), 5: vBool(0), 7: vText("a"), 9: vUint(9), 255: whole}
	for set := range 1 << len(all) {
		v := vStruct(nil)
		want := api.OK
		for i, tag := range all {
			switch {
			case set>>i&1 == 1:
				v.Tags, v.Items = append(v.Tags, tag), append(v.Items, items[tag])
			case slices.Contains(must, tag):
				want = api.ErrNone
			}
		}
		isStruct(t, want, d, "P", v)
		is(t, want, d, opt(named("P")), v)
		is(t, want, d, list(named("P")), vList(whole, v, whole))
		isStruct(t, want, d, "P", vStruct(tags(1, 7, 9, 255), vInt(1), vText(""), vUint(0), v))
	}
}

// 16.1: a struct of which one row must be there, at the beginning, in the midst or at the end.
func TestOneMissing(t *testing.T) {
	for n := 1; n <= 8; n++ {
		for at := range n {
			for _, alone := range []bool{false, true} {
				var rows []api.Field
				v := vStruct(nil)
				for i := range n {
					x := tInt
					if alone && i != at {
						x = opt(x)
					}
					rows = append(rows, field(n-i, string(rune('a'+i)), x))
					v.Tags, v.Items = append(v.Tags, i+1), append(v.Items, vInt(int64(i)))
				}
				missing := n - 1 - at
				d := of(t, decl(api.DStruct, "P", rows...))
				isStruct(t, api.OK, d, "P", v)
				less := vStruct(slices.Delete(slices.Clone(v.Tags), missing, missing+1), slices.Delete(slices.Clone(v.Items), missing, missing+1)...)
				isStruct(t, api.ErrNone, d, "P", less)
			}
		}
	}
}

// 16.1: a struct without rows, and without rows that must be there.
func TestEmpty(t *testing.T) {
	d := read(t, "struct O { } struct Q { 1 a: int?; 2 b: O?; } struct P { 1 a: int; } union U { 1 o: O; }")
	empty := vStruct(nil)
	isStruct(t, api.OK, d, "O", empty)
	isStruct(t, api.OK, d, "Q", empty)
	isStruct(t, api.ErrNone, d, "P", empty)
	isStruct(t, api.OK, d, "Q", vStruct(tags(2), empty))
	isStruct(t, api.ErrTag, d, "O", vStruct(tags(1), vInt(1)))
	isStruct(t, api.ErrTag, d, "O", vStruct(tags(2), empty))
	is(t, api.OK, d, named("U"), vUnion(1, empty))
	is(t, api.ErrKind, d, named("U"), empty)
	for _, x := range []api.Type{tInt, named("P"), named("Z"), {}, made(api.TList), opt(named("Z"))} {
		is(t, api.OK, d, list(x), vList())
		is(t, api.OK, d, table(x, x), vMap())
		is(t, api.ErrKind, d, list(x), vMap())
		is(t, api.ErrKind, d, table(x, x), vList())
		is(t, api.ErrKind, d, list(x), empty)
	}
}

// 16.1: a union of each of its rows, and of each tag that is none.
func TestUnionRows(t *testing.T) {
	d := read(t, "union U { 9 c: text; 1 a: int; 255 d: U; 4 b: int; } struct P { 1 u: U; }")
	items := map[int]api.Value{1: vInt(1), 4: vInt(1), 9: vText("a"), 255: vUnion(4, vInt(1))}
	for tag := 1; tag <= api.MaxTag; tag++ {
		for row, v := range items {
			want := api.ErrTag
			if right, ok := items[tag]; ok {
				want = api.ErrKind
				if right.Kind == v.Kind {
					want = api.OK
				}
			}
			is(t, want, d, named("U"), vUnion(tag, v))
			isStruct(t, want, d, "P", vStruct(tags(1), vUnion(tag, v)))
			if row == 255 {
				is(t, want, d, named("U"), vUnion(255, vUnion(255, vUnion(tag, v))))
			}
		}
	}
}

// 16.1: an enum of each of its values, and of all others.
func TestEnumValues(t *testing.T) {
	d := read(t, "enum E { 7 B; 0 A; 9999 D; 255 C; 256 G; } enum F { 1 A; }")
	for n := range int64(10000) {
		for name, all := range map[string][]int64{"E": {0, 7, 255, 256, 9999}, "F": {1}} {
			want := api.ErrTag
			if slices.Contains(all, n) {
				want = api.OK
			}
			if e := Fits(d, named(name), vEnum(n)); e != want {
				t.Fatal(name, n, e)
			}
			if e := Fits(d, list(named(name)), vList(vEnum(all[0]), vEnum(n))); e != want {
				t.Fatal(name, n, e)
			}
		}
	}
	for _, n := range []int64{-1, 10000, 1 << 32, 1<<32 + 7, 1<<63 - 1, -1 << 63} {
		is(t, api.ErrForm, d, named("E"), vEnum(n))
	}
	// An enum of as many values as there may be.
	var l []api.Field
	for n := range 10000 {
		l = append(l, field(9999-n, "v"+fmt.Sprint(n), api.Type{}))
	}
	d = of(t, decl(api.DEnum, "E", l...))
	for n := range int64(10000) {
		if e := Fits(d, named("E"), vEnum(n)); e != api.OK {
			t.Fatal(n, e)
		}
	}
}

// 16.1: a struct, and a union, of as many rows as there may be.
func TestAllTags(t *testing.T) {
	var rows []api.Field
	v := vStruct(nil)
	for tag := 1; tag <= api.MaxTag; tag++ {
		x := tInt
		if tag%2 == 0 {
			x = tText
		}
		rows = append(rows, field(tag, fmt.Sprint(tag), x))
		item := vInt(1)
		if tag%2 == 0 {
			item = vText("a")
		}
		v.Tags, v.Items = append(v.Tags, tag), append(v.Items, item)
	}
	d := of(t, decl(api.DStruct, "P", rows...), decl(api.DUnion, "U", rows...))
	isStruct(t, api.OK, d, "P", v)
	for i, tag := range v.Tags {
		less := vStruct(slices.Delete(slices.Clone(v.Tags), i, i+1), slices.Delete(slices.Clone(v.Items), i, i+1)...)
		other := vStruct(v.Tags, slices.Clone(v.Items)...)
		other.Items[i] = vBool(0)
		for want, x := range map[api.Errno]api.Value{api.ErrNone: less, api.ErrKind: other} {
			if e := Struct(d, "P", x); e != want {
				t.Fatal(tag, e, want)
			}
		}
		is(t, api.OK, d, named("U"), vUnion(tag, v.Items[i]))
		is(t, api.ErrKind, d, named("U"), vUnion(tag, v.Items[(i+1)%254]))
	}
}

// nested is a value within so many lists.
func nested(v api.Value, n int) api.Value {
	for range n {
		v = vList(v)
	}
	return v
}

// nestedType is a type within so many of a kind.
func nestedType(kind int, x api.Type, n int) api.Type {
	for range n {
		x = made(kind, x)
	}
	return x
}

// deepValue is a struct R of baseText's, so many values deep, by its row of a tag.
func deepValue(tag, n int) api.Value {
	switch {
	case n == 1:
		return vStruct(nil)
	case tag == 1:
		return vStruct(tags(1), deepValue(tag, n-1))
	case n == 2:
		return vStruct(tags(1), vStruct(nil))
	}
	inner := deepValue(tag, n-2)
	return vStruct(tags(tag), map[int]api.Value{2: vList(inner), 3: vMap(vInt(1), inner), 4: vUnion(1, inner)}[tag])
}

// 16.1: values up to MaxDeep deep, and deeper ones; what is wrong with a value that is too deep is that, whatever else is, if it is a value.
func TestDeep(t *testing.T) {
	d := read(t, baseText)
	for n := 1; n <= 20; n++ {
		want := api.OK
		if n > 8 {
			want = api.ErrDeep
		}
		for tag := 1; tag <= 4; tag++ {
			v := deepValue(tag, n)
			isStruct(t, want, d, "R", v)
			is(t, want, d, opt(named("R")), v)
		}
		is(t, want, d, nestedType(api.TList, tInt, n-1), nested(vInt(1), n-1))
		is(t, want, d, nestedType(api.TList, opt(opt(tInt)), n-1), nested(vInt(1), n-1))
		union := vUnion(2, vEnum(5))
		for range n - 2 {
			union = vUnion(3, union)
		}
		if n > 1 {
			is(t, want, d, named("V"), union)
		}
		// The same with another fault: within the bound it is told, beyond it is not.
		for _, o := range notFine() {
			want := o.want
			if n-1+value.Deep(o.v) > 8 {
				want = api.ErrDeep
			}
			is(t, want, d, nestedType(api.TList, o.x, n-1), nested(o.v, n-1))
		}
		for _, o := range ill() {
			is(t, api.ErrForm, d, nestedType(api.TList, o.x, n-1), nested(o.v, n-1))
			is(t, api.ErrForm, d, tInt, nested(o.v, n-1))
			is(t, api.ErrForm, d, api.Type{}, nested(o.v, n-1))
		}
	}
	// The deepest item counts, wherever it stands.
	for at := range 5 {
		v := vList(slices.Repeat([]api.Value{vList()}, 5)...)
		v.Items[at] = nested(vInt(1), 6)
		is(t, api.ErrKind, d, list(list(tInt)), v)
		v.Items[at] = nested(vInt(1), 7)
		is(t, api.ErrDeep, d, list(list(tInt)), v)
		v.Items[(at+2)%5] = vText("\xff")
		is(t, api.ErrForm, d, list(list(tInt)), v)
	}
}

// 16.1: a value that is none, one that is too deep, and types of no kind: in this order.
func TestFormFirst(t *testing.T) {
	d := read(t, baseText)
	types := []api.Type{tInt, {}, made(api.TList), named("Z"), named("S"), named("R"), made(api.TMap, tInt), opt(api.Type{}), list(tInt)}
	for _, x := range types {
		is(t, api.ErrForm, d, x, vBool(2))
		is(t, api.ErrForm, d, x, nested(vBool(2), 20))
		is(t, api.ErrForm, d, x, vList(vBool(2), nested(vInt(1), 20)))
		is(t, api.ErrForm, d, x, vList(nested(vInt(1), 20), vInt(1), vBool(2)))
		is(t, api.ErrForm, d, x, vStruct(tags(9, 8), nested(vInt(1), 20), vInt(1)))
		is(t, api.ErrDeep, d, x, nested(vInt(1), 8))
		is(t, api.ErrDeep, d, x, vStruct(tags(200), nested(vInt(1), 8)))
		is(t, api.ErrDeep, nil, x, nested(vInt(1), 20))
	}
	// A struct's name is asked ahead of its value.
	for _, name := range []string{"Z", "U", "V", "E", "S", "", "p", "P "} {
		for _, v := range []api.Value{vBool(2), {}, nested(vInt(1), 20), vStruct(nil), vInt(1), vEnum(5), vUnion(2, vInt(1))} {
			isStruct(t, api.ErrType, d, name, v)
			isStruct(t, api.ErrType, nil, name, v)
		}
	}
	isStruct(t, api.ErrForm, d, "P", vBool(2))
	isStruct(t, api.ErrForm, d, "P", nested(vBool(2), 20))
	isStruct(t, api.ErrDeep, d, "P", nested(vBool(1), 20))
	isStruct(t, api.ErrKind, d, "P", nested(vBool(1), 7))
}

// faulty are values of a struct P { 1 a: int; 3 b: text?; 4 c: list<E>?; .. }, each with one fault, or none.
func faulty() []one {
	p := named("P")
	return []one{
		{p, vStruct(tags(1), vInt(4)), api.OK},
		{p, vInt(1), api.ErrKind},
		{p, vStruct(tags(1), vText("a")), api.ErrKind},
		{p, vStruct(tags(1, 2), vInt(4), vInt(4)), api.ErrTag},
		{p, vStruct(tags(1, 4), vInt(4), vList(vEnum(0), vEnum(1))), api.ErrTag},
		{p, vStruct(tags(3), vText("")), api.ErrNone},
	}
}

// first is the first of some errors that is one.
func first(l ...api.Errno) api.Errno {
	for _, e := range l {
		if e != api.OK {
			return e
		}
	}
	return api.OK
}

// 16.1: two and three faults: item by item, in lists, in maps, in structs.
func TestItemByItem(t *testing.T) {
	d := read(t, baseText+" struct T { 9 c: P; 1 a: P; 4 b: P; } union N { 4 p: P; }")
	p := named("P")
	for _, a := range faulty() {
		for _, b := range faulty() {
			for _, c := range faulty() {
				want := first(a.want, b.want, c.want)
				is(t, want, d, list(p), vList(a.v, b.v, c.v))
				is(t, want, d, table(tInt, p), vMap(vInt(1), a.v, vInt(2), b.v, vInt(3), c.v))
				isStruct(t, want, d, "T", vStruct(tags(1, 4, 9), a.v, b.v, c.v))
				is(t, want, d, list(list(p)), vList(vList(), vList(a.v, b.v), vList(c.v)))
				is(t, want, d, list(table(tInt, p)), vList(vMap(vInt(1), a.v), vMap(vInt(1), b.v, vInt(2), c.v)))
				is(t, want, d, list(named("N")), vList(vUnion(4, a.v), vUnion(4, b.v), vUnion(4, c.v)))
				// What is missing is told behind the items' faults, at each place.
				isStruct(t, first(a.want, b.want, api.ErrNone), d, "T", vStruct(tags(1, 4), a.v, b.v))
				isStruct(t, first(a.want, b.want, api.ErrNone), d, "T", vStruct(tags(1, 9), a.v, b.v))
				isStruct(t, first(a.want, b.want, api.ErrNone), d, "T", vStruct(tags(4, 9), a.v, b.v))
				isStruct(t, first(a.want, api.ErrNone), d, "T", vStruct(tags(9), a.v))
				// But ahead of those of items that stand behind the struct.
				is(t, first(a.want, api.ErrNone), d, list(named("T")), vList(vStruct(tags(1), a.v), vStruct(tags(1, 4, 9), b.v, b.v, c.v)))
				// A tag that is none, ahead, between and behind.
				isStruct(t, first(a.want, api.ErrTag), d, "T", vStruct(tags(1, 2, 4, 9), a.v, vInt(1), b.v, c.v))
				isStruct(t, first(a.want, b.want, api.ErrTag), d, "T", vStruct(tags(1, 4, 5, 9), a.v, b.v, vInt(1), c.v))
				isStruct(t, first(a.want, b.want, c.want, api.ErrTag), d, "T", vStruct(tags(1, 4, 9, 10), a.v, b.v, c.v, vInt(1)))
				isStruct(t, first(a.want, b.want, api.ErrTag), d, "T", vStruct(tags(1, 4, 10), a.v, b.v, vInt(1)))
			}
		}
	}
}

// 16.1: all rows of a struct, each there, not there or of another one's kind, and tags between that are none.
func TestRowByRow(t *testing.T) {
	d := read(t, "struct P { 1 a: int; } enum E { 0 A; } struct T { 8 d: P?; 2 a: int; 6 c: E; 4 b: text; }")
	rows := []struct {
		tag         int
		right       api.Value
		wrong       api.Value
		err, absent api.Errno
	}{
		{2, vInt(1), vUint(1), api.ErrKind, api.ErrNone},
		{4, vText(""), vBytes(""), api.ErrKind, api.ErrNone},
		{6, vEnum(0), vEnum(1), api.ErrTag, api.ErrNone},
		{8, vStruct(tags(1), vInt(1)), vStruct(nil), api.ErrNone, api.OK},
	}
	for way := range 3 * 3 * 3 * 3 * 32 {
		v := vStruct(nil)
		var errs, missing []api.Errno
		n := way
		for i := range 5 {
			if n%2 == 1 {
				v.Tags, v.Items = append(v.Tags, 2*i+1), append(v.Items, vInt(1))
				errs = append(errs, api.ErrTag)
			}
			n /= 2
			if i == 4 {
				break
			}
			row := rows[i]
			switch n % 3 {
			case 0:
				missing = append(missing, row.absent)
			case 1:
				v.Tags, v.Items = append(v.Tags, row.tag), append(v.Items, row.right)
			case 2:
				v.Tags, v.Items = append(v.Tags, row.tag), append(v.Items, row.wrong)
				errs = append(errs, row.err)
			}
			n /= 3
		}
		isStruct(t, first(append(errs, missing...)...), d, "T", v)
	}
}

// 16.1: from the outside to the inside; keys ahead of their values; what a map's keys are, and its values.
func TestOutsideFirst(t *testing.T) {
	d := read(t, baseText)
	e, p, r := named("E"), named("P"), named("R")
	a := vStruct(tags(1), vInt(4))
	for _, o := range []one{
		{table(e, p), vMap(vEnum(0), a, vEnum(5), a), api.OK},
		{table(e, p), vMap(vEnum(1), vStruct(nil)), api.ErrTag},
		{table(e, p), vMap(vInt(0), vStruct(nil)), api.ErrKind},
		{table(e, p), vMap(vEnum(0), vStruct(nil), vEnum(1), vInt(1)), api.ErrNone},
		{table(e, p), vMap(vEnum(0), vInt(1), vEnum(1), vStruct(nil)), api.ErrKind},
		{table(e, p), vMap(vEnum(0), a, vEnum(1), vStruct(nil)), api.ErrTag},
		{table(e, p), vMap(vEnum(0), a, vEnum(5), vStruct(nil), vEnum(6), a), api.ErrNone},
		{table(p, e), vMap(vEnum(0), a), api.ErrKind},
		{table(tInt, tUint), vMap(vInt(1), vUint(1), vInt(2), vUint(2)), api.OK},
		{table(tInt, tUint), vMap(vUint(1), vInt(1), vUint(2), vInt(2)), api.ErrKind},
		{table(tInt, tUint), vMap(vInt(1), vUint(1), vInt(2), vInt(2)), api.ErrKind},
		{table(tInt, tUint), vMap(vInt(1), vInt(1)), api.ErrKind},
		{table(tInt, tUint), vMap(vUint(1), vUint(1)), api.ErrKind},
		// The outer one's kind, whatever is within.
		{list(e), vMap(vEnum(1), vEnum(1)), api.ErrKind},
		{list(named("Z")), vInt(1), api.ErrKind},
		{p, vUnion(2, vEnum(1)), api.ErrKind},
		{e, vList(vEnum(1)), api.ErrKind},
		// A tag that is none, whatever its item is.
		{p, vStruct(tags(2), vUnion(9, vEnum(1))), api.ErrTag},
		{p, vStruct(tags(1, 3, 4, 5), vInt(1), vText(""), vList(vInt(1)), vInt(1)), api.ErrKind},
		{named("U"), vUnion(3, vEnum(1)), api.ErrTag},
		// Inner items' faults ahead of outer ones that stand behind, and of what is missing outside.
		{p, vStruct(tags(4, 5), vList(vEnum(0), vEnum(1)), vInt(1)), api.ErrTag},
		{p, vStruct(tags(4, 9), vList(vEnum(0), vInt(1)), vUnion(1, vInt(1))), api.ErrKind},
		{p, vStruct(tags(9, 10), vUnion(5, vStruct(nil)), vInt(1)), api.ErrNone},
		{p, vStruct(tags(9), vUnion(5, vStruct(tags(3), vInt(1)))), api.ErrKind},
		{r, vStruct(tags(1, 2), vStruct(tags(1), vStruct(tags(9), vInt(1))), vInt(1)), api.ErrTag},
		{r, vStruct(tags(1, 2), vStruct(tags(1), vStruct(tags(2), vInt(1))), vList(vStruct(tags(9), vInt(1)))), api.ErrKind},
		{r, vStruct(tags(2, 9), vList(vStruct(nil), vStruct(tags(4), vUnion(2, vEnum(5)))), vInt(1)), api.ErrTag},
		// A type that is none of the schema's, as an item's fault.
		{list(made(api.TMap, e)), vList(vInt(1)), api.ErrType},
		{table(e, named("Z")), vMap(vEnum(0), vInt(1), vEnum(1), vInt(1)), api.ErrType},
		{table(e, named("Z")), vMap(vEnum(1), vInt(1)), api.ErrTag},
		{table(named("Z"), e), vMap(vEnum(1), vEnum(1)), api.ErrType},
		{table(named("S"), e), vMap(vInt(1), vEnum(1)), api.ErrType},
	} {
		is(t, o.want, d, o.x, o.v)
	}
}

// kindEdges are kinds that there are not.
var kindEdges = []int{0, -1, -4, -9, 10, 11, 15, 255, 257, 1<<8 + 4, 1<<16 + 1, 1<<32 + 2, 1<<32 + 7, math.MaxInt32, math.MinInt32, math.MaxInt, math.MinInt}

// isNone asks whether a type is none of the schema's: it is told wherever a value comes to it, of any kind, and not where none does.
func isNone(t *testing.T, d *desc.Desc, x api.Type) {
	t.Helper()
	some := []api.Value{vBool(1), vInt(1), vUint(1), vText(""), vBytes("a"), vEnum(5), vEnum(1), vList(), vList(vInt(1)), vMap(), vMap(vInt(1), vInt(1)), vStruct(nil), vStruct(tags(1), vInt(1)), vUnion(2, vInt(1)), vUnion(1, vInt(1))}
	for _, v := range some {
		is(t, api.ErrType, d, x, v)
		is(t, api.ErrType, d, opt(x), v)
		is(t, api.ErrType, d, opt(opt(x)), v)
		is(t, api.ErrType, d, list(x), vList(v))
		is(t, api.ErrType, d, list(opt(x)), vList(v, vInt(1)))
		is(t, api.ErrType, d, table(tInt, x), vMap(vInt(1), v))
		is(t, api.ErrType, d, list(list(x)), vList(vList(), vList(v)))
		is(t, api.ErrKind, d, table(tInt, x), vMap(vUint(1), v))
		is(t, api.ErrKind, d, table(tInt, x), vList(v))
		if mayBeKey(v) {
			is(t, api.ErrType, d, table(x, tInt), vMap(v, vUint(1)))
		}
	}
	is(t, api.OK, d, list(x), vList())
	is(t, api.OK, d, list(opt(x)), vList())
	is(t, api.OK, d, list(list(x)), vList(vList(), vList()))
	is(t, api.OK, d, table(tInt, x), vMap())
	is(t, api.OK, d, table(x, tInt), vMap())
	is(t, api.OK, d, table(tInt, list(x)), vMap(vInt(1), vList()))
	is(t, api.ErrKind, d, list(x), vInt(1))
	is(t, api.ErrKind, d, table(x, x), vList())
}

// 16.1: types of no kind, of no declaration, and of a service's.
func TestNoTypes(t *testing.T) {
	d := read(t, baseText)
	for _, kind := range kindEdges {
		isNone(t, d, made(kind))
		isNone(t, d, made(kind, tInt))
		isNone(t, d, api.Type{Kind: kind, Name: "P", Of: []api.Type{tInt, tInt}})
	}
	for _, name := range []string{"S", "Z", "", "p", "P ", " P", "PP", "int", "\xff"} {
		isNone(t, d, named(name))
		isNone(t, d, api.Type{Kind: api.TNamed, Name: name, Of: []api.Type{named("P")}})
	}
	for _, name := range []string{"P", "E", "U", "O", "S", ""} {
		isNone(t, nil, named(name))
		isNone(t, read(t, ""), named(name))
	}
}

// 16.1: lists, maps and options with each number of types that they are of.
func TestFormed(t *testing.T) {
	d := read(t, baseText)
	right := map[int]int{api.TList: 1, api.TMap: 2, api.TOpt: 1}
	for _, inner := range []api.Type{tInt, named("P"), {}, named("Z"), list(tInt)} {
		for kind, n := range right {
			for have := range 5 {
				x := made(kind, slices.Repeat([]api.Type{inner}, have)...)
				if have != n {
					isNone(t, d, x)
				}
				x.Name = "P"
				if have != n {
					isNone(t, d, x)
				}
			}
		}
	}
	// What lies behind a list's end is none of it.
	of := []api.Type{tInt, tText, tBool}
	isNone(t, d, made(api.TList, of[:0]...))
	is(t, api.OK, d, made(api.TList, of[:1]...), vList(vInt(1)))
	isNone(t, d, made(api.TList, of[:2]...))
	isNone(t, d, made(api.TMap, of[:1]...))
	is(t, api.OK, d, made(api.TMap, of[:2]...), vMap(vInt(1), vText("")))
	isNone(t, d, made(api.TMap, of[:3]...))
	isNone(t, d, made(api.TOpt, of[:0]...))
	is(t, api.OK, d, made(api.TOpt, of[1:2]...), vText(""))
	isNone(t, d, made(api.TOpt, of[1:3]...))
}

// beside are types that are the same as one, but for what counts for nothing: its name, and what it is of, as far as it has them not.
func beside(x api.Type) []api.Type {
	l := []api.Type{x}
	for _, name := range []string{"P", "E", "Z", "S", "", "a b"} {
		for _, of := range [][]api.Type{{}, {tInt}, {{}}, {named("Z"), tInt}, {tInt, tInt, made(api.TList)}} {
			y := x
			if y.Kind != api.TNamed {
				y.Name = name
			}
			if y.Kind <= api.TNamed {
				y.Of = of
			}
			l = append(l, y)
		}
	}
	return l
}

// 16.1: Name, and Of of other kinds, count for nothing.
func TestBeside(t *testing.T) {
	d := read(t, baseText)
	some := []one{}
	for _, o := range ones() {
		if naiveKind(naiveType(d.Decls(), o.x)) != 0 {
			some = append(some, o)
		}
	}
	for _, o := range some {
		for _, x := range beside(o.x) {
			is(t, o.want, d, x, o.v)
			is(t, o.want, d, list(x), vList(o.v))
		}
		for _, x := range beside(list(o.x)) {
			is(t, o.want, d, x, vList(o.v))
		}
		for _, x := range beside(table(tInt, opt(o.x))) {
			is(t, o.want, d, x, vMap(vInt(1), o.v))
		}
		for _, x := range beside(opt(o.x)) {
			is(t, o.want, d, x, o.v)
		}
	}
}

// 16.1: what an enum's values, and a service, have beside counts for nothing; so do the names of rows.
func TestBesideRows(t *testing.T) {
	d := of(t, decl(api.DStruct, "P", field(1, "", tInt)), decl(api.DEnum, "E", field(3, "A", made(api.TList)), field(0, "B", opt(tInt))), decl(api.DService, "S", field(1, "a", tInt)),
		api.Decl{Kind: api.DStruct, Name: "Q", Fields: []api.Field{field(2, "b", tInt)}, Methods: []api.Method{{Tag: 1, Name: "m", In: "P", Out: "P"}}}, decl(api.DStruct, "", field(4, " ", named("E"))))
	is(t, api.OK, d, named("E"), vEnum(0))
	is(t, api.OK, d, named("E"), vEnum(3))
	is(t, api.ErrTag, d, named("E"), vEnum(1))
	isNone(t, d, named("S"))
	isStruct(t, api.ErrType, d, "S", vStruct(tags(1), vInt(1)))
	isStruct(t, api.OK, d, "Q", vStruct(tags(2), vInt(1)))
	isStruct(t, api.ErrTag, d, "Q", vStruct(tags(1, 2), vInt(1), vInt(1)))
	isStruct(t, api.OK, d, "", vStruct(tags(4), vEnum(3)))
	isStruct(t, api.ErrTag, d, "", vStruct(tags(4), vEnum(4)))
	is(t, api.OK, d, named(""), vStruct(tags(4), vEnum(3)))
}

// names tells whether a type is of something that has a name.
func names(x api.Type) bool {
	return x.Kind == api.TNamed || slices.ContainsFunc(x.Of, names)
}

// 16.1: a nil schema, and one without declarations: types that name nothing are as of any other one.
func TestNil(t *testing.T) {
	for _, d := range []*desc.Desc{nil, {}, read(t, "")} {
		for _, o := range fine() {
			want := api.OK
			if names(o.x) {
				want = api.ErrType
			}
			is(t, want, d, o.x, o.v)
		}
		for _, o := range ill() {
			is(t, api.ErrForm, d, o.x, o.v)
		}
		for _, name := range []string{"", "P", "E"} {
			isStruct(t, api.ErrType, d, name, vStruct(nil))
			isStruct(t, api.ErrType, d, name, vInt(0))
			isStruct(t, api.ErrType, d, name, vBool(2))
		}
	}
}

// 16.1: a struct's name.
func TestStruct(t *testing.T) {
	d := read(t, baseText)
	for _, o := range ones() {
		for name, kind := range map[string]int{"P": 1, "O": 1, "R": 1, "K": 1, "U": 2, "V": 2, "E": 3, "S": 4, "Z": 0, "": 0, "p": 0} {
			want := api.ErrType
			if kind == api.DStruct {
				want = Fits(d, named(name), o.v)
			}
			isStruct(t, want, d, name, o.v)
		}
	}
	k := vStruct(tags(1, 2, 3, 4, 5, 6, 7, 8, 9, 10), vBool(1), vInt(1), vUint(1), vText("a"), vBytes("a"), vEnum(5), vStruct(tags(1), vInt(1)), vUnion(7, vEnum(0)), vList(vInt(1)), vMap(vText(""), vInt(1)))
	isStruct(t, api.OK, d, "K", k)
	for i := range k.Items {
		for j := range k.Items {
			x := vStruct(k.Tags, slices.Clone(k.Items)...)
			x.Items[i] = k.Items[j]
			want := api.ErrKind
			if i == j {
				want = api.OK
			}
			isStruct(t, want, d, "K", x)
		}
	}
}

// 16.1: options within one another, as many as the document's bound lets be.
func TestManyOptions(t *testing.T) {
	d := read(t, baseText)
	const n = 1<<16 - 1
	for _, o := range []one{{tInt, vInt(1), api.OK}, {tInt, vUint(1), api.ErrKind}, {named("E"), vEnum(1), api.ErrTag}, {named("P"), vStruct(nil), api.ErrNone}, {named("Z"), vInt(1), api.ErrType}, {made(api.TOpt), vInt(1), api.ErrType}, {made(api.TOpt, tInt, tInt), vInt(1), api.ErrType}} {
		x := nestedType(api.TOpt, o.x, n)
		for _, y := range []api.Type{x, list(x), table(tInt, x)} {
			v := o.v
			switch y.Kind {
			case api.TList:
				v = vList(v, v)
			case api.TMap:
				v = vMap(vInt(1), v)
			}
			if e := Fits(d, y, v); e != o.want {
				t.Fatal(o, e)
			}
		}
	}
	// Lists as deep as that have values, too.
	x := nestedType(api.TList, made(99), n)
	if e := Fits(d, x, nested(vList(), 7)); e != api.OK {
		t.Fatal(e)
	}
	if e := Fits(d, x, nested(vInt(1), 7)); e != api.ErrKind {
		t.Fatal(e)
	}
}

// R1: types that have themselves within them, and values that have: each has an answer.
func TestEndless(t *testing.T) {
	d := read(t, baseText)
	of := make([]api.Type, 2)
	of[0], of[1] = made(api.TOpt, of[:1]...), made(api.TOpt, of[1:]...)
	for _, v := range []api.Value{vInt(1), vList(), vStruct(nil)} {
		if e := Fits(d, of[0], v); e != api.ErrType {
			t.Fatal(e)
		}
		if e := Fits(d, table(tInt, of[1]), vMap(vInt(1), v)); e != api.ErrType {
			t.Fatal(e)
		}
	}
	of[0], of[1] = made(api.TList, of[:1]...), made(api.TMap, tInt, of[1])
	lists := made(api.TList, of[:1]...)
	of[0] = lists
	for n := range 12 {
		want := api.OK
		if n > 7 {
			want = api.ErrDeep
		}
		if e := Fits(d, lists, nested(vList(), n)); e != want {
			t.Fatal(n, e)
		}
	}
	if e := Fits(d, lists, nested(vInt(1), 7)); e != api.ErrKind {
		t.Fatal(e)
	}
	items := make([]api.Value, 1)
	items[0] = vList(items...)
	for _, x := range []api.Type{lists, tInt, list(tInt), {}} {
		if e := Fits(d, x, items[0]); e != api.ErrForm {
			t.Fatal(e)
		}
	}
}

// R1: values of many items.
func TestWide(t *testing.T) {
	d := read(t, baseText)
	const n = 100000
	l, m := vList(), vMap()
	for i := range n {
		p := vStruct(tags(1, 9), vInt(int64(i)), vUnion(7, vEnum(5)))
		l.Items = append(l.Items, p)
		m.Items = append(m.Items, vInt(int64(i)), p)
	}
	lists, maps := list(named("P")), table(tInt, named("P"))
	if a, b := Fits(d, lists, l), Fits(d, maps, m); a != api.OK || b != api.OK {
		t.Fatal(a, b)
	}
	l.Items[n-1], m.Items[2*n-1] = vStruct(nil), vStruct(tags(1, 9), vInt(1), vUnion(7, vEnum(4)))
	if a, b := Fits(d, lists, l), Fits(d, maps, m); a != api.ErrNone || b != api.ErrTag {
		t.Fatal(a, b)
	}
	m.Items[n+1] = vStruct(tags(1), vUint(1))
	if e := Fits(d, maps, m); e != api.ErrKind {
		t.Fatal(e)
	}
}

// R1: a schema whose types are as deep as the document's bound lets them be, and many values of it.
func TestDeepTypes(t *testing.T) {
	d := of(t, decl(api.DStruct, "P", field(1, "a", nestedType(api.TList, tInt, 1<<15)), field(2, "b", opt(nestedType(api.TList, named("P"), 1<<14)))))
	l := vList(slices.Repeat([]api.Value{vStruct(tags(1, 2), nested(vList(), 4), vList())}, 20000)...)
	if e := Fits(d, list(named("P")), l); e != api.OK {
		t.Fatal(e)
	}
	l.Items[len(l.Items)-1] = vStruct(tags(1), nested(vInt(1), 4))
	if e := Fits(d, list(named("P")), l); e != api.ErrKind {
		t.Fatal(e)
	}
}

// slack is a value whose lists, and whose items' lists, lie in longer ones: something lies behind their ends.
func slack(v api.Value) api.Value {
	v.Tags = append(slices.Clone(v.Tags), 2, 777)[:len(v.Tags)]
	var items []api.Value
	for _, x := range v.Items {
		items = append(items, slack(x))
	}
	v.Items = append(items, vUint(77), vText("\xff"), vList(vBool(2)))[:len(v.Items)]
	return v
}

// slackType is the same of a type.
func slackType(x api.Type) api.Type {
	var of []api.Type
	for _, y := range x.Of {
		of = append(of, slackType(y))
	}
	x.Of = append(of, tBool, api.Type{}, named("Z"))[:len(x.Of)]
	return x
}

// R4: what is handed in stays as it was, and what lies behind its lists' ends, which counts for nothing.
func TestStay(t *testing.T) {
	d := read(t, baseText)
	for _, o := range ones() {
		is(t, o.want, d, slackType(o.x), slack(o.v))
		is(t, o.want, d, list(slackType(o.x)), vList(slack(o.v)))
	}
}

// R4: nothing of what was handed in is kept: what is asked again, with another type or value in the same lists, is answered by what is there now.
func TestNotKept(t *testing.T) {
	d := read(t, baseText)
	x, v := table(tInt, named("P")), vMap(vInt(1), vStruct(tags(1), vInt(4)), vInt(2), vStruct(tags(1), vInt(4)))
	is(t, api.OK, d, x, v)
	v.Items[1].Items[0] = vUint(4)
	is(t, api.ErrKind, d, x, v)
	v.Items[1].Items[0] = vInt(4)
	v.Items[3].Tags[0] = 2
	is(t, api.ErrTag, d, x, v)
	v.Items[3].Tags[0] = 3
	v.Items[3].Items[0] = vText("")
	is(t, api.ErrNone, d, x, v)
	x.Of[1] = named("U")
	is(t, api.ErrKind, d, x, v)
	x.Of[1] = named("Z")
	is(t, api.ErrType, d, x, v)
	x.Of[1] = named("P")
	v.Items[3].Tags[0], v.Items[3].Items[0] = 1, vInt(1)
	is(t, api.OK, d, x, v)
	// A schema of its own name each.
	other := read(t, "struct P { 1 a: uint; } union U { 1 a: int; }")
	is(t, api.ErrKind, other, x, v)
	is(t, api.OK, d, x, v)
	isStruct(t, api.OK, other, "P", vStruct(tags(1), vUint(1)))
	isStruct(t, api.ErrKind, d, "P", vStruct(tags(1), vUint(1)))
}

// R4: what a schema answers to others is not changed by what is asked here.
func TestSchemaStays(t *testing.T) {
	d := read(t, baseText)
	ahead := [][]api.Field{d.Rows("P"), d.Rows("U"), d.Rows("E"), d.Rows("R")}
	for _, o := range ones() {
		held(t, d, o.x, o.v)
	}
	if now := [][]api.Field{d.Rows("P"), d.Rows("U"), d.Rows("E"), d.Rows("R")}; !reflect.DeepEqual(now, ahead) || !d.Same(read(t, baseText)) {
		t.Fatal(now)
	}
}

// questions are all of them, asked of a schema.
func questions(d *desc.Desc) []func() api.Errno {
	var l []func() api.Errno
	for _, o := range ones() {
		l = append(l, func() api.Errno { return Fits(d, o.x, o.v) }, func() api.Errno { return Struct(d, o.x.Name, o.v) })
	}
	return l
}

// answers are what is answered, by a schema that was asked for nothing ahead.
func answers(t *testing.T) []api.Errno {
	var l []api.Errno
	for i := range questions(nil) {
		l = append(l, questions(read(t, baseText))[i]())
	}
	return l
}

// R5: the same is answered each time, whichever is asked first.
func TestAnyOrder(t *testing.T) {
	want := answers(t)
	r := rand.New(rand.NewSource(16))
	for range 60 {
		all := questions(read(t, baseText))
		for _, i := range append(r.Perm(len(all)), r.Perm(len(all))...) {
			if got := all[i](); got != want[i] {
				t.Fatalf("%d: %v, not %v", i, got, want[i])
			}
		}
	}
}

// R5: whoever asks at the same time is answered the same.
func TestAtOnce(t *testing.T) {
	want := answers(t)
	for range 20 {
		all := questions(read(t, baseText))
		got := make([][]api.Errno, 8)
		var wait sync.WaitGroup
		for i := range got {
			wait.Go(func() {
				for j := range all {
					got[i] = append(got[i], all[(i*7+j)%len(all)]())
				}
			})
		}
		wait.Wait()
		for i, l := range got {
			for j, e := range l {
				if e != want[(i*7+j)%len(all)] {
					t.Fatal(i, j, e)
				}
			}
		}
	}
}

// takesPlace tells whether a schema takes another one's place and has all its rows.
func takesPlace(old, now *desc.Desc) bool {
	if e, _ := compat.Check(old, now); e != api.OK {
		return false
	}
	return !slices.ContainsFunc(old.Decls(), func(d api.Decl) bool { return len(compat.Gone(old, now, d.Name)) > 0 })
}

// heldPlace asks whether what is of a type of a schema is so in one that takes its place and has all its rows; it tells whether it is.
func heldPlace(t *testing.T, old, now *desc.Desc, x api.Type, v api.Value) bool {
	t.Helper()
	e := held(t, old, x, v)
	if there := held(t, now, x, v); e == api.OK && there != api.OK {
		t.Fatalf("%v is of %v by %v, but %v by %v", v, x, old.Decls(), there, now.Decls())
	}
	return e == api.OK
}

// baseNext are schemas that take the place of baseText's, with all its rows.
var baseNext = []string{
	baseText,
	// Names of rows, and an order.
	"service S { 1 get(P): O; } enum E { 9999 X; 5 Y; 0 Z; } union V { 3 z: V; 2 y: E; 1 x: R; } union U { 7 n: E; 5 z: P; 2 p: int; } struct O { }" +
		" struct R { 4 a: V?; 3 b: map<int,R>?; 2 c: list<R>?; 1 d: R?; } struct P { 9 a: U?; 4 b: list<E>?; 3 c: text?; 1 d: int; }" +
		" struct K { 10 a: map<text,int>; 1 b: bool; 2 c: int; 3 d: uint; 4 e: text; 5 f: bytes; 6 g: E; 7 h: P; 8 i: U; 9 j: list<int>; }",
	// Rows more, values more, declarations and methods more.
	"struct P { 1 a: int; 2 z: K?; 3 b: text?; 4 c: list<E>?; 9 d: U?; 10 y: int?; } struct O { 255 a: O?; } struct R { 1 r: R?; 2 l: list<R>?; 3 m: map<int,R>?; 4 v: V?; }" +
		" union U { 1 z: text; 2 n: int; 5 p: P; 7 e: E; } union V { 1 r: R; 2 e: E; 3 v: V; 4 k: K; } enum E { 0 A; 1 Z; 5 B; 9999 C; } service S { 1 get(P): O; 2 put(O): P; }" +
		" struct K { 1 a: bool; 2 b: int; 3 c: uint; 4 d: text; 5 e: bytes; 6 f: E; 7 g: P; 8 h: U; 9 i: list<int>; 10 j: map<text,int>; } struct Z { 1 a: int; } enum Y { 1 A; }",
}

// 16.2: what is of a type of a schema is so in each that takes its place and has all its rows.
func TestPlace(t *testing.T) {
	old := read(t, baseText)
	base := old.Decls()
	for _, s := range baseNext {
		now := read(t, s)
		if !takesPlace(old, now) {
			t.Fatal(s)
		}
		for _, o := range fine() {
			is(t, api.OK, now, o.x, o.v)
			for _, a := range wraps() {
				if x := a(told{base, o}); len(x.l) == len(base) {
					is(t, api.OK, now, x.x, x.v)
				}
			}
		}
		for _, o := range slices.Concat(notFine(), ill()) {
			heldPlace(t, old, now, o.x, o.v)
		}
	}
}

// 16.2: schemas with one thing more, and one thing less: what was of a type is not so any more only where a row went.
func TestRowsWent(t *testing.T) {
	for _, l := range []struct {
		old, now string
		all      bool // all rows are there
		v        api.Value
		want     api.Errno
	}{
		{"struct P { 1 a: int; }", "struct P { 1 b: int; }", true, vStruct(tags(1), vInt(1)), api.OK},
		{"struct P { 1 a: int; }", "struct P { 1 a: int; 2 b: text?; }", true, vStruct(tags(1), vInt(1)), api.OK},
		{"struct P { }", "struct P { 1 a: int?; 2 b: P?; }", true, vStruct(nil), api.OK},
		{"struct P { 1 a: int?; }", "struct P { 2 b: int?; }", false, vStruct(nil), api.OK},
		{"struct P { 1 a: int?; }", "struct P { }", false, vStruct(tags(1), vInt(1)), api.ErrTag},
		{"struct P { 1 a: int?; 2 b: int; }", "struct P { 2 b: int; }", false, vStruct(tags(1, 2), vInt(1), vInt(1)), api.ErrTag},
		{"struct P { 1 a: int?; 2 b: int; }", "struct P { 2 b: int; }", false, vStruct(tags(2), vInt(1)), api.OK},
		{"struct P { 1 p: Q?; } struct Q { 1 a: int?; }", "struct Q { } struct P { 1 p: Q?; }", false, vStruct(tags(1), vStruct(tags(1), vInt(1))), api.ErrTag},
		{"struct P { 1 p: Q?; } struct Q { 1 a: int?; }", "struct Q { } struct P { 1 p: Q?; }", false, vStruct(tags(1), vStruct(nil)), api.OK},
		{"struct P { 1 u: U; } union U { 1 a: int; }", "struct P { 1 u: U; } union U { 2 b: P; 1 a: int; }", true, vStruct(tags(1), vUnion(1, vInt(1))), api.OK},
		{"struct P { 1 e: E; } enum E { 4 A; }", "struct P { 1 e: E; } enum E { 3 A; 4 B; }", true, vStruct(tags(1), vEnum(4)), api.OK},
	} {
		old, now := read(t, l.old), read(t, l.now)
		if e, name := compat.Check(old, now); e != api.OK || takesPlace(old, now) != l.all {
			t.Fatal(l, e, name)
		}
		isStruct(t, api.OK, old, "P", l.v)
		isStruct(t, l.want, now, "P", l.v)
	}
}

// chance makes schemas, types and values by chance; names are those of declarations, a letter each.
type chance struct {
	*rand.Rand
	names string
}

func (r chance) name() string {
	i := r.Intn(len(r.names))
	return r.names[i : i+1]
}

// typed is a type; one that is made slipshod may be none of a schema's.
func (r chance) typed(deep int, slipshod bool) api.Type {
	if slipshod && r.Intn(12) == 0 {
		return api.Type{Kind: r.Intn(11), Name: "Z", Of: slices.Repeat([]api.Type{tInt}, r.Intn(4))}
	}
	n := 7
	if deep > 0 {
		n = 10
	}
	switch kind := r.Intn(n) + 1; {
	case kind < api.TNamed:
		return made(kind)
	case kind == api.TList:
		return list(r.typed(deep-1, slipshod))
	case kind == api.TMap:
		key := []api.Type{tBool, tInt, tUint, tText, named(r.name())}[r.Intn(5)]
		return table(key, r.typed(deep-1, slipshod))
	case kind == api.TOpt && slipshod:
		return opt(r.typed(deep-1, slipshod))
	}
	return named(r.name())
}

// rows are fields of rising tags, from 1 on.
func (r chance) rows(kind int) []api.Field {
	var l []api.Field
	for tag := 1 + r.Intn(2); tag < 9 && r.Intn(5) > 0; tag += 1 + r.Intn(3) {
		x := r.typed(2, false)
		if kind == api.DStruct && r.Intn(2) == 0 {
			x = opt(x)
		}
		l = append(l, field(tag, "f"+fmt.Sprint(tag), x))
	}
	return l
}

// decls are declarations that may be.
func (r chance) decls() []api.Decl {
	for {
		var l []api.Decl
		for i := range len(r.names) {
			kind := []int{api.DStruct, api.DStruct, api.DStruct, api.DUnion, api.DUnion, api.DEnum, api.DEnum, api.DService}[r.Intn(8)]
			d := decl(kind, r.names[i:i+1])
			if kind != api.DService {
				d.Fields = r.rows(kind)
			}
			l = append(l, d)
		}
		if _, f := desc.Of(l); f == (api.Fault{}) {
			return l
		}
	}
}

// next are declarations that take the place of others, and have all their rows.
func (r chance) next(l []api.Decl) []api.Decl {
	l = slices.Clone(l)
	for i, d := range l {
		l[i].Fields = slices.Clone(d.Fields)
		for j := range l[i].Fields {
			l[i].Fields[j].Name = fmt.Sprint("g", j)
		}
		if d.Kind != api.DService && r.Intn(2) == 0 {
			x := r.typed(1, false)
			if d.Kind == api.DStruct {
				x = opt(x)
			}
			l[i].Fields = append(l[i].Fields, field(20+r.Intn(9), "new", x))
		}
		r.Shuffle(len(l[i].Fields), func(a, b int) { l[i].Fields[a], l[i].Fields[b] = l[i].Fields[b], l[i].Fields[a] })
	}
	if r.Intn(3) == 0 {
		l = append(l, decl(api.DEnum, "New", field(3, "a", api.Type{})))
	}
	r.Shuffle(len(l), func(a, b int) { l[a], l[b] = l[b], l[a] })
	return l
}

// word is a value of a type that a word alone tells.
func (r chance) word(kind int) api.Value {
	switch kind {
	case api.TBool:
		return vBool(int64(r.Intn(2)))
	case api.TText:
		return vText([]string{"", "a", "b", "\u20ac"}[r.Intn(4)])
	case api.TBytes:
		return vBytes([]string{"", "a", "\xff"}[r.Intn(3)])
	}
	return api.Value{Kind: map[int]int{api.TInt: api.VInt, api.TUint: api.VUint}[kind], Num: int64(r.Intn(9)) - 4}
}

// valued is a value of a type; of one of which there is none, or that goes too deep, another one.
func (r chance) valued(l []api.Decl, x api.Type, deep int) api.Value {
	x, d := naiveType(l, x)
	switch kind := naiveKind(x, d); {
	case deep < -9 || kind == 0:
		return vInt(1)
	case kind == api.VList:
		v := vList()
		for range r.Intn(3) * min(max(deep, 0), 1) {
			v.Items = append(v.Items, r.valued(l, x.Of[0], deep-1))
		}
		return v
	case kind == api.VMap:
		return r.mapped(l, x, deep)
	case kind == api.VEnum:
		return vEnum(int64(d.Fields[r.Intn(len(d.Fields))].Tag))
	case kind == api.VUnion:
		f := d.Fields[r.Intn(len(d.Fields))]
		return vUnion(f.Tag, r.valued(l, f.Type, deep-1))
	case kind == api.VStruct:
		v := vStruct(nil)
		rows := slices.Clone(d.Fields)
		slices.SortFunc(rows, func(a, b api.Field) int { return a.Tag - b.Tag })
		for _, f := range rows {
			if f.Type.Kind != api.TOpt || deep > 0 && r.Intn(2) == 0 {
				v.Tags, v.Items = append(v.Tags, f.Tag), append(v.Items, r.valued(l, f.Type, deep-1))
			}
		}
		return v
	}
	return r.word(x.Kind)
}

// mapped is a map of a type.
func (r chance) mapped(l []api.Decl, x api.Type, deep int) api.Value {
	var keys []api.Value
	for range r.Intn(3) * min(max(deep, 0), 1) {
		keys = append(keys, r.valued(l, x.Of[0], deep-1))
	}
	slices.SortFunc(keys, value.Cmp)
	v := vMap()
	for i, key := range keys {
		if i == 0 || value.Cmp(keys[i-1], key) < 0 {
			v.Items = append(v.Items, key, r.valued(l, x.Of[1], deep-1))
		}
	}
	return v
}

// spoilt is a value with something another one, at the top or within; it may be of the same type yet.
func (r chance) spoilt(l []api.Decl, v api.Value) api.Value {
	v = hollow(v, false)
	x := &v
	for len(x.Items) > 0 && r.Intn(3) > 0 {
		x = &x.Items[r.Intn(len(x.Items))]
	}
	switch r.Intn(10) {
	case 0:
		x.Num += int64(r.Intn(3) - 1)
	case 1:
		*x = r.valued(l, named(r.name()), 2)
	case 2:
		*x = r.word(1 + r.Intn(5))
	case 3:
		if len(x.Tags) > 0 {
			x.Tags[r.Intn(len(x.Tags))] += r.Intn(3) - 1
		}
	case 4, 8, 9:
		if n := len(x.Tags); n > 0 {
			i := r.Intn(n)
			x.Tags, x.Items = slices.Delete(x.Tags, i, i+1), slices.Delete(x.Items, i, i+1)
		}
	case 5:
		if x.Kind == api.VStruct {
			x.Tags, x.Items = append(x.Tags, 9), append(x.Items, vInt(1))
		}
	case 6:
		x.Text += []string{"a", "\xff"}[r.Intn(2)]
	case 7:
		*x = nested(*x, 4+r.Intn(5))
	}
	return v
}

// heldChance asks of a schema, of one that takes its place, of types and of values, all by chance; it counts what is told.
func heldChance(t *testing.T, r chance, told map[string]int) {
	t.Helper()
	r.names = "ABCDEF"[:2+r.Intn(5)]
	l := r.decls()
	old, now := of(t, l...), may(r.next(l))
	if now != nil && !takesPlace(old, now) {
		t.Fatal(l, now.Decls())
	}
	for range 20 {
		x := named(r.name())
		if r.Intn(2) == 0 {
			x = r.typed(3, r.Intn(2) == 0)
		}
		v := r.valued(l, x, 4)
		for range r.Intn(3) {
			v = r.spoilt(l, v)
		}
		told[held(t, old, x, v).Error()]++
		if now != nil && heldPlace(t, old, now, x, v) {
			told["place"]++
		}
	}
}

// may is the schema of declarations, if they may be.
func may(l []api.Decl) *desc.Desc {
	d, _ := desc.Of(l)
	return d
}

// 16.1, 16.2: schemas, types and values by chance.
func TestByChance(t *testing.T) {
	r := chance{Rand: rand.New(rand.NewSource(1602))}
	told := map[string]int{}
	for range 3000 {
		heldChance(t, r, told)
	}
	for _, word := range []string{"ok", "form", "deep", "kind", "tag", "none", "type", "place"} {
		if told[word] < 300 {
			t.Fatal(word, told)
		}
	}
}

func FuzzFit(f *testing.F) {
	for seed := range int64(20) {
		f.Add(seed)
	}
	f.Fuzz(func(t *testing.T, seed int64) {
		heldChance(t, chance{Rand: rand.New(rand.NewSource(seed))}, map[string]int{})
	})
}
