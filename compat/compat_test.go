package compat

import (
	"math"
	"math/rand"
	"reflect"
	"slices"
	"strconv"
	"strings"
	"sync"
	"testing"
	"unsafe"

	"concourse/api"
	"concourse/check"
	"concourse/desc"
	"concourse/parse"
)

// The types that a word alone tells, in short.
var (
	tBool  = api.Type{Kind: api.TBool}
	tInt   = api.Type{Kind: api.TInt}
	tUint  = api.Type{Kind: api.TUint}
	tText  = api.Type{Kind: api.TText}
	tBytes = api.Type{Kind: api.TBytes}
)

func named(s string) api.Type      { return api.Type{Kind: api.TNamed, Name: s} }
func list(x api.Type) api.Type     { return api.Type{Kind: api.TList, Of: []api.Type{x}} }
func table(k, v api.Type) api.Type { return api.Type{Kind: api.TMap, Of: []api.Type{k, v}} }
func opt(x api.Type) api.Type      { return api.Type{Kind: api.TOpt, Of: []api.Type{x}} }

func field(n int, s string, x api.Type) api.Field { return api.Field{Tag: n, Name: s, Type: x} }
func value(n int, s string) api.Field             { return api.Field{Tag: n, Name: s} }

func method(n int, name, in, out string) api.Method {
	return api.Method{Tag: n, Name: name, In: in, Out: out}
}

func oneWay(n int, name, in, out string) api.Method {
	return api.Method{Tag: n, Name: name, In: in, Out: out, OneWay: true}
}

func decl(kind int, name string, l ...api.Field) api.Decl {
	return api.Decl{Kind: kind, Name: name, Fields: l}
}

// with is a declaration with these methods, whatever its kind.
func with(d api.Decl, l ...api.Method) api.Decl {
	d.Methods = l
	return d
}

func service(name string, l ...api.Method) api.Decl {
	return api.Decl{Kind: api.DService, Name: name, Methods: l}
}

// made is the schema of declarations that may be.
func made(t *testing.T, l ...api.Decl) *desc.Desc {
	t.Helper()
	d, f := desc.Of(l)
	if f != (api.Fault{}) {
		t.Fatalf("%v: %v", l, f)
	}
	return d
}

// read is the schema of a text that is one.
func read(t *testing.T, s string) *desc.Desc {
	t.Helper()
	d, f := desc.Read(s)
	if f != (api.Fault{}) {
		t.Fatalf("%q: %v", s, f)
	}
	return d
}

// parsed are the declarations of a text.
func parsed(t *testing.T, s string) []api.Decl {
	t.Helper()
	l, f := parse.Parse(s)
	if f != (api.Fault{}) {
		t.Fatalf("%q: %v", s, f)
	}
	return l
}

// isOne asks whether now is held against old with just this answer.
func isOne(t *testing.T, old, now *desc.Desc, want api.Errno, at string) {
	t.Helper()
	if e, name := Check(old, now); e != want || name != at {
		t.Fatalf("Check of %v and %v = %v, %q, not %v, %q", old.Decls(), now.Decls(), e, name, want, at)
	}
	held(t, old, now)
}

// is asks whether two schemas are held against each other with just these answers: the second one in the first one's place, and back. A name stands beside an error alone.
func is(t *testing.T, a, b *desc.Desc, there api.Errno, thereAt string, back api.Errno, backAt string) {
	t.Helper()
	isOne(t, a, b, there, thereAt)
	isOne(t, b, a, back, backAt)
}

// isGone asks whether just these tags went.
func isGone(t *testing.T, old, now *desc.Desc, name string, want ...int) {
	t.Helper()
	if tags := Gone(old, now, name); !slices.Equal(tags, want) {
		t.Fatalf("Gone of %v and %v, %q = %v, not %v", old.Decls(), now.Decls(), name, tags, want)
	}
	held(t, old, now)
}

// The chapter's example.
func TestExample(t *testing.T) {
	old, now := read(t, "struct P { 1 a: int; }"), read(t, "struct P { 1 a: int; 2 b: text?; }")
	isOne(t, old, now, api.OK, "")
	isGone(t, old, now, "P")
	isGone(t, now, old, "P", 2)
}

const baseText = "struct A { 4 d: C; 1 a: int; 2 b: list<map<text,B>>; 3 c: int?; } struct B { 1 a: int; 2 b: map<C,bool>; } enum C { 1 y; 0 x; }" +
	" service S { 1 get(A): B; oneway 2 put(B): A; } union U { 2 b: B; 1 a: int; } struct E { } service T { }"

// The places of baseText's declarations.
const (
	atA = iota
	atB
	atC
	atS
	atU
	atE
	atT
)

// verdict is what Check tells.
type verdict struct {
	err api.Errno
	at  string
}

var fine verdict

// wrong is an error, and the declaration at which it is.
func wrong(err api.Errno, at string) verdict { return verdict{err, at} }

// edit makes one thing of baseText's declarations another one; there is what is told of what is made in the place of what was, back is what is told the other way round.
type edit struct {
	made        func(l []api.Decl) []api.Decl
	there, back verdict
}

// on is the making of another declaration of one.
func on(place int, f func(d *api.Decl)) func(l []api.Decl) []api.Decl {
	return func(l []api.Decl) []api.Decl {
		f(&l[place])
		return l
	}
}

// less is a declaration without the row of a place; more is one with these rows more; typed is one with a row's type another one.
func less(at int) func(d *api.Decl) {
	return func(d *api.Decl) { d.Fields = slices.Delete(d.Fields, at, at+1) }
}

func more(l ...api.Field) func(d *api.Decl) {
	return func(d *api.Decl) { d.Fields = append(d.Fields, l...) }
}

func typed(at int, x api.Type) func(d *api.Decl) {
	return func(d *api.Decl) { d.Fields[at].Type = x }
}

// lessMethod and moreMethods are the same of methods.
func lessMethod(at int) func(d *api.Decl) {
	return func(d *api.Decl) { d.Methods = slices.Delete(d.Methods, at, at+1) }
}

func moreMethods(l ...api.Method) func(d *api.Decl) {
	return func(d *api.Decl) { d.Methods = append(d.Methods, l...) }
}

// structEdits are those of a struct's rows.
func structEdits() []edit {
	tag, kind := wrong(api.ErrTag, "A"), wrong(api.ErrType, "A")
	return []edit{
		// A row that went, or came: what may be absent may, others may not.
		{on(atA, less(0)), tag, tag},
		{on(atA, less(1)), tag, tag},
		{on(atA, less(2)), tag, tag},
		{on(atA, less(3)), fine, fine},
		{on(atA, more(field(9, "z", tInt))), tag, tag},
		{on(atA, more(field(255, "z", list(tInt)))), tag, tag},
		{on(atA, more(field(9, "z", opt(tInt)))), fine, fine},
		{on(atA, more(field(255, "z", opt(named("A"))))), fine, fine},
		{on(atA, more(field(9, "z", opt(tInt)), field(10, "y", tInt), field(11, "x", opt(tInt)))), tag, tag},
		{on(atE, more(field(1, "a", tInt))), wrong(api.ErrTag, "E"), wrong(api.ErrTag, "E")},
		{on(atE, more(field(1, "a", opt(tInt)))), fine, fine},
		{on(atA, func(d *api.Decl) { d.Fields = nil }), tag, tag},
		{on(atA, func(d *api.Decl) { d.Fields = d.Fields[3:] }), tag, tag},
		// A name alone, and an order.
		{on(atA, func(d *api.Decl) { d.Fields[0].Name = "z" }), fine, fine},
		{on(atA, func(d *api.Decl) { d.Fields[3].Name = "" }), fine, fine},
		{on(atA, func(d *api.Decl) { d.Fields[0].Name, d.Fields[1].Name = d.Fields[1].Name, d.Fields[0].Name }), fine, fine},
		{on(atA, func(d *api.Decl) { slices.Reverse(d.Fields) }), fine, fine},
		{on(atB, func(d *api.Decl) { slices.Reverse(d.Fields) }), fine, fine},
		// A tag.
		{on(atA, func(d *api.Decl) { d.Fields[1].Tag = 7 }), tag, tag},
		{on(atA, func(d *api.Decl) { d.Fields[3].Tag = 7 }), fine, fine},
		{on(atA, func(d *api.Decl) { d.Fields[0].Tag, d.Fields[1].Tag = d.Fields[1].Tag, d.Fields[0].Tag }), kind, kind},
		// A type, and one within another one.
		{on(atA, typed(1, tUint)), kind, kind},
		{on(atA, typed(1, tBool)), kind, kind},
		{on(atA, typed(1, named("C"))), kind, kind},
		{on(atA, typed(1, list(tInt))), kind, kind},
		{on(atA, typed(1, opt(tInt))), kind, kind},
		{on(atA, typed(3, tInt)), kind, kind},
		{on(atA, typed(3, opt(tUint))), kind, kind},
		{on(atA, typed(3, tUint)), kind, kind},
		{on(atA, typed(0, named("B"))), kind, kind},
		{on(atA, typed(0, opt(named("C")))), kind, kind},
		{on(atA, typed(2, opt(list(table(tText, named("B")))))), kind, kind},
		{on(atA, typed(2, list(table(tText, named("A"))))), kind, kind},
		{on(atA, typed(2, list(table(tInt, named("B"))))), kind, kind},
		{on(atA, typed(2, list(table(named("C"), named("B"))))), kind, kind},
		{on(atA, typed(2, list(named("B")))), kind, kind},
		{on(atA, typed(2, table(tText, named("B")))), kind, kind},
		{on(atA, typed(2, list(list(table(tText, named("B")))))), kind, kind},
		{on(atB, typed(1, table(named("C"), tText))), wrong(api.ErrType, "B"), wrong(api.ErrType, "B")},
	}
}

// unionEdits are those of a union's rows, and of an enum's values.
func unionEdits() []edit {
	tagU, typeU, tagC, typeC := wrong(api.ErrTag, "U"), wrong(api.ErrType, "U"), wrong(api.ErrTag, "C"), wrong(api.ErrType, "C")
	return []edit{
		{on(atU, less(0)), tagU, fine},
		{on(atU, less(1)), tagU, fine},
		{on(atU, more(field(3, "z", tInt))), fine, tagU},
		{on(atU, more(field(255, "z", list(tInt)), field(4, "y", named("U")))), fine, tagU},
		{on(atU, func(d *api.Decl) { d.Fields[0].Name = "z" }), fine, fine},
		{on(atU, func(d *api.Decl) { d.Fields[0].Name, d.Fields[1].Name = d.Fields[1].Name, d.Fields[0].Name }), fine, fine},
		{on(atU, func(d *api.Decl) { slices.Reverse(d.Fields) }), fine, fine},
		{on(atU, func(d *api.Decl) { d.Fields[1].Tag = 3 }), tagU, tagU},
		{on(atU, func(d *api.Decl) { d.Fields[0].Tag, d.Fields[1].Tag = d.Fields[1].Tag, d.Fields[0].Tag }), typeU, typeU},
		{on(atU, typed(0, named("A"))), typeU, typeU},
		{on(atU, typed(1, tUint)), typeU, typeU},
		{on(atU, typed(1, list(tInt))), typeU, typeU},

		{on(atC, less(0)), tagC, fine},
		{on(atC, less(1)), tagC, fine},
		{on(atC, more(value(2, "z"))), fine, tagC},
		{on(atC, more(value(9999, "z"))), fine, tagC},
		{on(atC, func(d *api.Decl) { d.Fields[0].Name = "z" }), fine, fine},
		{on(atC, func(d *api.Decl) { d.Fields[0].Name, d.Fields[1].Name = d.Fields[1].Name, d.Fields[0].Name }), fine, fine},
		{on(atC, func(d *api.Decl) { slices.Reverse(d.Fields) }), fine, fine},
		{on(atC, func(d *api.Decl) { d.Fields[0].Tag = 9999 }), tagC, tagC},
		{on(atC, func(d *api.Decl) { d.Fields[1].Tag = 2 }), tagC, tagC},
		// The types that an enum's values have beside.
		{on(atC, typed(0, tInt)), typeC, typeC},
		{on(atC, typed(1, opt(tInt))), typeC, typeC},
		{on(atC, typed(1, api.Type{Kind: -5})), typeC, typeC},
		{on(atC, typed(1, api.Type{Name: "A"})), typeC, typeC},
		{on(atC, typed(1, api.Type{Of: []api.Type{{}}})), typeC, typeC},
		{on(atC, typed(1, api.Type{Of: []api.Type{}})), fine, fine},
		{on(atC, more(field(2, "z", tInt))), fine, tagC},
		{on(atC, more(field(2, "z", opt(tInt)))), fine, tagC},
		{on(atC, more(field(2, "z", api.Type{Kind: 99, Of: []api.Type{tInt, tInt}}))), fine, tagC},
	}
}

// serviceEdits are those of a service's methods, and of what it has beside: rows.
func serviceEdits() []edit {
	tag, kind := wrong(api.ErrTag, "S"), wrong(api.ErrType, "S")
	return []edit{
		{on(atS, lessMethod(0)), tag, fine},
		{on(atS, lessMethod(1)), tag, fine},
		{on(atS, func(d *api.Decl) { d.Methods = nil }), tag, fine},
		{on(atS, moreMethods(method(3, "z", "A", "B"))), fine, tag},
		{on(atS, moreMethods(oneWay(255, "", "E", "E"))), fine, tag},
		{on(atT, moreMethods(method(1, "get", "A", "B"))), fine, wrong(api.ErrTag, "T")},
		{on(atS, func(d *api.Decl) { d.Methods[0].Name = "z" }), tag, tag},
		{on(atS, func(d *api.Decl) { d.Methods[1].Name = "Put" }), tag, tag},
		{on(atS, func(d *api.Decl) { d.Methods[0].Name, d.Methods[1].Name = "put", "get" }), kind, kind},
		{on(atS, func(d *api.Decl) { d.Methods[0].Tag = 3 }), kind, kind},
		{on(atS, func(d *api.Decl) { d.Methods[0].Tag, d.Methods[1].Tag = 2, 1 }), kind, kind},
		{on(atS, func(d *api.Decl) { d.Methods[0].In = "B" }), kind, kind},
		{on(atS, func(d *api.Decl) { d.Methods[0].Out = "A" }), kind, kind},
		{on(atS, func(d *api.Decl) { d.Methods[0].In, d.Methods[0].Out = "B", "A" }), kind, kind},
		{on(atS, func(d *api.Decl) { d.Methods[0].OneWay = true }), kind, kind},
		{on(atS, func(d *api.Decl) { d.Methods[1].In = "E" }), kind, kind},
		{on(atS, func(d *api.Decl) { d.Methods[1].Out = "E" }), kind, kind},
		{on(atS, func(d *api.Decl) { d.Methods[1].OneWay = false }), kind, kind},
		{on(atS, func(d *api.Decl) { slices.Reverse(d.Methods) }), fine, fine},
		// A service's rows are as a union's, what may be absent, too.
		{on(atS, more(field(9, "a", tInt))), fine, tag},
		{on(atS, more(field(9, "a", opt(tInt)))), fine, tag},
		{on(atT, more(field(9, "a", opt(tInt)), field(8, "b", tText))), fine, wrong(api.ErrTag, "T")},
		// Methods of others are as a service's.
		{on(atA, moreMethods(method(9, "get", "A", "B"))), fine, wrong(api.ErrTag, "A")},
		{on(atE, moreMethods(oneWay(1, "get", "A", "B"))), fine, wrong(api.ErrTag, "E")},
		{on(atC, moreMethods(method(9999, "get", "A", "B"))), fine, wrong(api.ErrTag, "C")},
		{on(atC, moreMethods(method(2, "get", "A", "B"))), fine, wrong(api.ErrTag, "C")},
		{on(atU, moreMethods(method(9, "get", "A", "B"), method(8, "put", "A", "B"))), fine, wrong(api.ErrTag, "U")},
	}
}

// declEdits are those of whole declarations.
func declEdits() []edit {
	kind := func(name string) verdict { return wrong(api.ErrKind, name) }
	name := func(name string) verdict { return wrong(api.ErrName, name) }
	renamed := func(at int, s string) func(l []api.Decl) []api.Decl {
		return on(at, func(d *api.Decl) { d.Name = s })
	}
	turned := func(at, kind int) func(l []api.Decl) []api.Decl {
		return on(at, func(d *api.Decl) { d.Kind = kind })
	}
	return []edit{
		{func(l []api.Decl) []api.Decl { return l }, fine, fine},
		// One that came, or went, at the end or at the front.
		{func(l []api.Decl) []api.Decl { return append(l, decl(api.DStruct, "Z")) }, fine, name("Z")},
		{func(l []api.Decl) []api.Decl { return append(l, decl(api.DEnum, "", value(0, "A"))) }, fine, name("")},
		{func(l []api.Decl) []api.Decl {
			return append([]api.Decl{decl(api.DUnion, "Z", field(1, "a", tInt))}, l...)
		}, fine, name("Z")},
		{func(l []api.Decl) []api.Decl { return append(l, service("Z"), service("Y")) }, fine, name("Z")},
		{func(l []api.Decl) []api.Decl { return l[:atT] }, name("T"), fine},
		{func(l []api.Decl) []api.Decl { return l[:atE] }, name("E"), fine},
		{func(l []api.Decl) []api.Decl { return slices.Delete(l, atU, atU+1) }, name("U"), fine},
		{func(l []api.Decl) []api.Decl { return slices.Delete(l, atS, atS+1) }, name("S"), fine},
		// One of another name.
		{renamed(atS, "Z"), name("S"), name("Z")},
		{renamed(atS, "s"), name("S"), name("s")},
		{renamed(atU, "U "), name("U"), name("U ")},
		{renamed(atE, ""), name("E"), name("")},
		{renamed(atT, "TT"), name("T"), name("TT")},
		// One of another kind.
		{turned(atU, api.DStruct), kind("U"), kind("U")},
		{turned(atU, api.DEnum), kind("U"), kind("U")},
		{turned(atU, api.DService), kind("U"), kind("U")},
		{turned(atE, api.DService), kind("E"), kind("E")},
		{turned(atT, api.DStruct), kind("T"), kind("T")},
		{on(atE, func(d *api.Decl) { *d = decl(api.DEnum, "E", value(0, "A")) }), kind("E"), kind("E")},
		{on(atE, func(d *api.Decl) { *d = decl(api.DUnion, "E", field(1, "a", tInt)) }), kind("E"), kind("E")},
		// One that stands elsewhere, in the list or in the text.
		{func(l []api.Decl) []api.Decl { l[atA], l[atB] = l[atB], l[atA]; return l }, fine, fine},
		{func(l []api.Decl) []api.Decl { l[atE], l[atT] = l[atT], l[atE]; return l }, fine, fine},
		{func(l []api.Decl) []api.Decl { slices.Reverse(l); return l }, fine, fine},
		{on(atS, func(d *api.Decl) { d.At = -7 }), fine, fine},
		{on(atA, func(d *api.Decl) { d.At = math.MaxInt }), fine, fine},
	}
}

// edits are all of them.
func edits() []edit {
	return slices.Concat(structEdits(), unionEdits(), serviceEdits(), declEdits())
}

// 14.1: a schema held against one with just one thing another, both ways round.
func TestOneThing(t *testing.T) {
	base := read(t, baseText)
	for i, x := range edits() {
		other := made(t, x.made(parsed(t, baseText))...)
		if e, name := Check(base, other); e != x.there.err || name != x.there.at {
			t.Errorf("edit %d: %v: %v, %q, not %v", i, other.Decls(), e, name, x.there)
		}
		if e, name := Check(other, base); e != x.back.err || name != x.back.at {
			t.Errorf("edit %d, back: %v: %v, %q, not %v", i, other.Decls(), e, name, x.back)
		}
		held(t, base, other)
	}
}

// 14.1: declarations of each kind that have rows and methods, of which one is another one.
func TestBeside(t *testing.T) {
	for kind := 1; kind <= 4; kind++ {
		base := with(decl(kind, "X", field(9, "r", tInt), field(7, "q", tText)), method(3, "m", "P", "Q"), oneWay(2, "n", "Q", "P"))
		madeOf := func(f func(d *api.Decl)) *desc.Desc {
			d := bareDecl(base)
			f(&d)
			return made(t, decl(api.DStruct, "P"), decl(api.DStruct, "Q"), d)
		}
		was := madeOf(func(*api.Decl) {})
		tag, other := wrong(api.ErrTag, "X"), wrong(api.ErrType, "X")
		rowCame := tag
		if kind != api.DStruct {
			rowCame = fine
		}
		for _, x := range []struct {
			made        func(d *api.Decl)
			there, back verdict
		}{
			{lessMethod(0), tag, fine},
			{lessMethod(1), tag, fine},
			{moreMethods(method(4, "l", "P", "P")), fine, tag},
			{func(d *api.Decl) { d.Methods[0].Tag = 4 }, other, other},
			{func(d *api.Decl) { d.Methods[0].In = "Q" }, other, other},
			{func(d *api.Decl) { d.Methods[0].Out = "P" }, other, other},
			{func(d *api.Decl) { d.Methods[1].OneWay = false }, other, other},
			{func(d *api.Decl) { d.Methods[1].Name = "N" }, tag, tag},
			{func(d *api.Decl) { slices.Reverse(d.Methods) }, fine, fine},
			{less(0), tag, rowCame},
			{less(1), tag, rowCame},
			{more(field(1, "z", tInt)), rowCame, tag},
			{typed(0, tBool), other, other},
			{func(d *api.Decl) { d.Fields[1].Tag = 8 }, tag, tag},
			{func(d *api.Decl) { d.Fields[1].Name = "z" }, fine, fine},
			{func(d *api.Decl) { slices.Reverse(d.Fields) }, fine, fine},
		} {
			now := madeOf(x.made)
			is(t, was, now, x.there.err, x.there.at, x.back.err, x.back.at)
		}
	}
}

// 14.1: a row of TOpt that went, that came, that stays but is none any more, and that became one: only a struct's may go and come.
func TestOptional(t *testing.T) {
	for _, kind := range []int{api.DStruct, api.DEnum, api.DService} {
		of := func(l ...api.Field) *desc.Desc { return made(t, decl(kind, "X", append(l, field(5, "e", tInt))...)) }
		without, there := of(), of(field(3, "c", opt(tInt)))
		is(t, there, of(field(3, "c", tInt)), api.ErrType, "X", api.ErrType, "X")
		is(t, there, of(field(3, "c", opt(tUint))), api.ErrType, "X", api.ErrType, "X")
		is(t, there, of(field(3, "d", opt(tInt))), api.OK, "", api.OK, "")
		is(t, of(field(3, "c", opt(list(tInt)))), of(field(3, "c", list(tInt))), api.ErrType, "X", api.ErrType, "X")
		if kind == api.DStruct {
			is(t, there, without, api.OK, "", api.OK, "")
			is(t, there, of(field(4, "c", opt(tInt))), api.OK, "", api.OK, "")
			is(t, there, of(field(4, "c", opt(tUint))), api.OK, "", api.OK, "")
			is(t, there, of(field(4, "c", tInt)), api.ErrTag, "X", api.ErrTag, "X")
		} else {
			is(t, there, without, api.ErrTag, "X", api.OK, "")
			is(t, there, of(field(4, "c", opt(tInt))), api.ErrTag, "X", api.ErrTag, "X")
		}
	}
	// Of an enum's values any type may stand, a TOpt of none, too; no more is it let go.
	for _, x := range []api.Type{{Kind: api.TOpt}, opt(opt(tInt)), {Kind: api.TOpt, Name: "X", Of: []api.Type{tInt, tInt}}} {
		is(t, made(t, decl(api.DEnum, "X", value(1, "a"), field(2, "b", x))), made(t, decl(api.DEnum, "X", value(1, "a"))), api.ErrTag, "X", api.OK, "")
	}
	// Nor does a list of what may not be absent count as a TOpt.
	is(t, read(t, "struct X { }"), read(t, "struct X { 1 l: list<int>; }"), api.ErrTag, "X", api.ErrTag, "X")
}

// 14.1: a nil schema, and those without declarations, and declarations without rows.
func TestNothing(t *testing.T) {
	empty, some, other := read(t, ""), read(t, "service S { } struct P { } enum E { 0 A; }"), read(t, "enum E { 0 A; }")
	for _, none := range []*desc.Desc{nil, empty, made(t)} {
		for _, no := range []*desc.Desc{nil, empty, made(t)} {
			is(t, none, no, api.OK, "", api.OK, "")
			isGone(t, none, no, "")
			isGone(t, none, no, "P")
		}
		is(t, none, some, api.OK, "", api.ErrName, "S")
		is(t, none, other, api.OK, "", api.ErrName, "E")
		isGone(t, none, some, "E")
		isGone(t, some, none, "E", 0)
		isGone(t, some, none, "P")
		isGone(t, some, none, "S")
		isGone(t, some, none, "")
	}
	is(t, some, other, api.ErrName, "S", api.OK, "")
	for _, kind := range []int{api.DStruct, api.DService} {
		for _, x := range []api.Decl{decl(kind, "X"), {Kind: kind, Name: "X", Fields: []api.Field{}, Methods: []api.Method{}}} {
			is(t, made(t, decl(kind, "X")), made(t, x), api.OK, "", api.OK, "")
			is(t, made(t, decl(kind, "X")), made(t, decl(api.DStruct+api.DService-kind, "X")), api.ErrKind, "X", api.ErrKind, "X")
			isGone(t, made(t, decl(kind, "X", field(3, "a", tInt), field(1, "b", tInt))), made(t, x), "X", 1, 3)
			isGone(t, made(t, x), made(t, decl(kind, "X", field(3, "a", tInt))), "X")
		}
	}
}

// 14.1: any text may be a name, and is told as it stands.
func TestAnyNames(t *testing.T) {
	strange := []string{"", " ", "a b", "int", "struct", "9", "\x00", "\xff", "\u20ac", strings.Repeat("x", 300), "P", "p", "P "}
	for _, s := range strange {
		full := made(t, decl(api.DStruct, s, field(1, s, tInt)), service("service", method(1, s, s, s)))
		is(t, full, made(t, decl(api.DStruct, s, field(1, s, tText)), service("service", method(1, s, s, s))), api.ErrType, s, api.ErrType, s)
		is(t, full, made(t, decl(api.DStruct, s, field(1, "z", tInt)), service("service", method(1, s+"z", s, s))), api.ErrTag, "service", api.ErrTag, "service")
		is(t, full, made(t, decl(api.DStruct, s), service("service", method(1, s, s, s))), api.ErrTag, s, api.ErrTag, s)
		is(t, full, made(t, service(s)), api.ErrKind, s, api.ErrKind, s)
		for _, other := range strange {
			if other != s {
				is(t, full, made(t, decl(api.DStruct, other, field(1, other, tInt)), service("service", method(1, other, other, other))), api.ErrName, s, api.ErrName, other)
			}
		}
	}
}

// 14.1: no name stands for another one: methods of one declaration are none of another one.
func TestOtherNames(t *testing.T) {
	for _, l := range [][4]string{{"a", "bc", "ab", "c"}, {"", "ab", "ab", ""}, {"a", "b", "b", "a"}, {"a.", "b", "a", ".b"}, {"a\x00", "b", "a", "\x00b"}} {
		p := decl(api.DStruct, "P")
		old := made(t, p, service(l[0], method(1, l[1], "P", "P")), service(l[2]))
		now := made(t, p, service(l[0]), service(l[2], method(1, l[3], "P", "P")))
		is(t, old, now, api.ErrTag, l[0], api.ErrTag, l[2])
		is(t, made(t, p, service(l[0], method(1, l[1], "P", "P")), service(l[2], method(1, l[3], "P", "P"))), now, api.ErrTag, l[0], api.OK, "")
	}
}

// fault is one thing that may be made wrong with a declaration X, and what is told then.
type fault struct {
	made func(d *api.Decl)
	err  api.Errno
}

// lessTag, typedTag, lessNamed and onNamed are edits by tags and names: each may be made behind the others.
func lessTag(tag int) func(d *api.Decl) {
	return func(d *api.Decl) {
		d.Fields = slices.DeleteFunc(d.Fields, func(f api.Field) bool { return f.Tag == tag })
	}
}

func typedTag(tag int, x api.Type) func(d *api.Decl) {
	return func(d *api.Decl) {
		d.Fields[slices.IndexFunc(d.Fields, func(f api.Field) bool { return f.Tag == tag })].Type = x
	}
}

func lessNamed(name string) func(d *api.Decl) {
	return func(d *api.Decl) {
		d.Methods = slices.DeleteFunc(d.Methods, func(m api.Method) bool { return m.Name == name })
	}
}

func onNamed(name string, f func(m *api.Method)) func(d *api.Decl) {
	return func(d *api.Decl) {
		f(&d.Methods[slices.IndexFunc(d.Methods, func(m api.Method) bool { return m.Name == name })])
	}
}

// faults are what may be wrong with a declaration of rows 1 to 9, in the chapter's order: an earlier one is told ahead of those behind it. Neither rows nor methods stand rising in the text.
func faults(kind int) []fault {
	l := []fault{
		{func(d *api.Decl) { d.Name = "other" + d.Name }, api.ErrName},
		{func(d *api.Decl) { d.Kind = d.Kind%4 + 1 }, api.ErrKind},
		{typedTag(2, tBool), api.ErrType},
		{lessTag(3), api.ErrTag},
		{typedTag(4, list(tInt)), api.ErrType},
		{lessTag(8), api.ErrTag},
		{typedTag(9, tBytes), api.ErrType},
		{lessNamed("z"), api.ErrTag},
		{onNamed("y", func(m *api.Method) { m.Out = "Q" }), api.ErrType},
		{lessNamed("a"), api.ErrTag},
		{onNamed("x", func(m *api.Method) { m.Tag = 90 }), api.ErrType},
	}
	if kind == api.DStruct {
		l = append(l, fault{more(field(1, "n", tInt)), api.ErrTag})
	} else {
		l = append(l, fault{more(field(1, "n", tInt)), api.OK})
	}
	return l
}

// faulty is a declaration with which nothing is wrong yet.
func faulty(kind int, name string) api.Decl {
	d := decl(kind, name, field(9, "i", tText), field(3, "c", tInt), field(200, "j", tInt), field(8, "h", tInt), field(2, "b", tInt), field(4, "d", tInt))
	return with(d, method(50, "z", "P", "P"), method(40, "y", "P", "P"), method(60, "a", "P", "P"), method(30, "x", "P", "P"))
}

// spoilt is a declaration with which those faults are whose bits are set; and the first one's error.
func spoilt(d api.Decl, bits int) (api.Decl, api.Errno) {
	err := api.OK
	d = bareDecl(d)
	for i, f := range faults(d.Kind) {
		if bits>>i&1 == 1 {
			f.made(&d)
			if err == api.OK {
				err = f.err
			}
		}
	}
	return d, err
}

// 14.1: where several things are wrong with one declaration, the one is told that the chapter names first.
func TestFirst(t *testing.T) {
	p, q := decl(api.DStruct, "P"), decl(api.DStruct, "Q")
	for kind := 1; kind <= 4; kind++ {
		d := faulty(kind, "X")
		old := made(t, d, p, q)
		for bits := range 1 << len(faults(kind)) {
			x, want := spoilt(d, bits)
			now := made(t, x, p, q)
			at := "X"
			if want == api.OK {
				at = ""
			}
			if e, name := Check(old, now); e != want || name != at {
				t.Fatalf("kind %d, faults %b: %v, %q, not %v, %q", kind, bits, e, name, want, at)
			}
			heldOnce(t, old, now)
		}
	}
}

// 14.1: where several declarations are wrong, old's first one is told, wherever they stand in now, and whichever names they bear.
func TestFirstDeclaration(t *testing.T) {
	r := rand.New(rand.NewSource(14))
	p, q := decl(api.DStruct, "P"), decl(api.DStruct, "Q")
	for range 4000 {
		var l, now []api.Decl
		want := fine
		for _, name := range []string{"X", "B", "Y", "A"} {
			d := faulty(1+r.Intn(4), name)
			bits := 0
			if r.Intn(2) == 0 {
				bits = 1 << r.Intn(12)
			}
			x, e := spoilt(d, bits)
			if want == fine && e != api.OK {
				want = wrong(e, name)
			}
			l, now = append(l, d), append(now, x)
		}
		now = append(now, p, q)
		r.Shuffle(len(now), func(i, j int) { now[i], now[j] = now[j], now[i] })
		old, other := made(t, append(l, p, q)...), made(t, now...)
		if e, name := Check(old, other); e != want.err || name != want.at {
			t.Fatalf("Check of %v and %v = %v, %q, not %v", l, now, e, name, want)
		}
		heldOnce(t, old, other)
	}
}

// tried are declarations with an edit; none, if it can't be made of them, or if they are no schema then.
func tried(l []api.Decl, x edit) (k []api.Decl) {
	defer func() {
		if recover() != nil {
			k = nil
		}
	}()
	k = x.made(bare(l))
	if check.Check(k).Err != api.OK {
		return nil
	}
	return k
}

// 14.1: a schema held against one with two things another.
func TestTwoThings(t *testing.T) {
	base, l := read(t, baseText), parsed(t, baseText)
	n := 0
	all := edits()
	for _, x := range all {
		for _, y := range all {
			k := tried(l, x)
			if k = tried(k, y); k == nil {
				continue
			}
			n++
			other := made(t, k...)
			heldOnce(t, base, other)
			heldOnce(t, other, base)
		}
	}
	if n < len(all)*len(all)/2 {
		t.Errorf("%d of %d", n, len(all)*len(all))
	}
}

// unlikeTypes are types of which each is another one.
func unlikeTypes() []api.Type {
	l := []api.Type{{}, {Kind: -1}, {Kind: 10}, {Kind: 1<<32 + 1}, {Kind: math.MaxInt}, {Kind: math.MinInt}, {Name: "E"}, {Of: []api.Type{{}}}, {Of: []api.Type{{}, {}}}}
	for _, name := range []string{"", "E", "e", "E ", "EE", "\x00"} {
		for kind := 1; kind <= 9; kind++ {
			l = append(l, api.Type{Kind: kind, Name: name})
		}
	}
	for kind := 0; kind <= 9; kind++ {
		for _, x := range []api.Type{tInt, tUint, named("E"), named("F"), list(tInt), list(tUint), opt(tInt), table(tInt, tUint), table(tUint, tInt)} {
			l = append(l, api.Type{Kind: kind, Of: []api.Type{x}}, api.Type{Kind: kind, Of: []api.Type{x, x}}, api.Type{Kind: kind, Name: "E", Of: []api.Type{x}},
				api.Type{Kind: kind, Of: []api.Type{x, tBool}}, api.Type{Kind: kind, Of: []api.Type{tBool, x}}, api.Type{Kind: kind, Of: []api.Type{x, x, x}})
		}
	}
	return l
}

// 14.1: two types are the same only if they are so in Kind, in Name and in all that they are of; however they are formed, and both ways round.
func TestTypes(t *testing.T) {
	l := unlikeTypes()
	for i, a := range l {
		for j, b := range l {
			if same := Type(a, b); same != (i == j) || same != naiveType(a, b) || same != Type(b, a) {
				t.Fatalf("Type(%v, %v) = %v", a, b, same)
			}
			if Type(list(a), list(b)) != (i == j) || Type(table(a, tInt), table(b, tInt)) != (i == j) || Type(table(tInt, a), table(tInt, b)) != (i == j) {
				t.Fatalf("Type of lists and maps of %v, %v", a, b)
			}
		}
		if !Type(a, bareType(a)) || !Type(bareType(a), a) || !Type(a, typeWithin(a)) || !Type(typeWithin(a), a) {
			t.Fatalf("%v is not the same as itself", a)
		}
	}
	if x := (api.Type{Kind: api.TText}); !Type(x, api.Type{Kind: api.TText, Of: []api.Type{}}) || !Type(api.Type{Kind: api.TText, Of: []api.Type{tInt}[:0]}, x) {
		t.Fatal("a list that is nil is another one than one of length 0")
	}
}

// wrapped is a type within so many others, by turns lists and maps, of keys and of values.
func wrapped(x api.Type, deep int) api.Type {
	for i := range deep {
		switch i % 3 {
		case 0:
			x = list(x)
		case 1:
			x = table(tText, x)
		case 2:
			x = api.Type{Kind: api.TMap, Of: []api.Type{x, tText}}
		}
	}
	return x
}

// 14.1: types that part only many levels deep, in Kind, in Name, in how many Of there are; as deep as the bound lets them be.
func TestDeepTypes(t *testing.T) {
	unlike := []api.Type{tInt, tUint, named("E"), named("F"), {Kind: api.TInt, Name: "E"}, {}, list(tInt), {Kind: api.TList}, {Kind: api.TList, Of: []api.Type{tInt, tInt}}, table(tInt, tInt), opt(tInt)}
	for _, n := range []int{1, 2, 3, 7, 8, 9, 100, 1000, 1<<16 - 2} {
		for i, x := range unlike {
			for j, y := range unlike {
				if n > 1000 && i != 0 && j != 0 && i != j {
					continue
				}
				if a, b := wrapped(x, n), wrapped(y, n); Type(a, b) != (i == j) {
					t.Fatalf("%d deep: Type of %v and %v = %v", n, x, y, Type(a, b))
				}
			}
			if Type(wrapped(x, n), wrapped(x, n+1)) || Type(wrapped(x, n+3), wrapped(x, n)) {
				t.Fatalf("%d deep: as deep as others", n)
			}
		}
	}
}

// 14.1: the same of rows, of each kind of declaration.
func TestDeepRows(t *testing.T) {
	inner := func(x api.Type, deep int) api.Type {
		for i := range deep {
			if i%2 == 0 {
				x = list(x)
			} else {
				x = table(tText, x)
			}
		}
		return x
	}
	for _, n := range []int{1, 8, 9, 1000, 1<<16 - 2} {
		for kind := 1; kind <= 4; kind++ {
			of := func(x api.Type) *desc.Desc { return made(t, decl(kind, "X", field(1, "a", inner(x, n)))) }
			for _, r := range []struct {
				a, b *desc.Desc
				want verdict
			}{{of(tInt), of(tInt), fine}, {of(tInt), of(tUint), wrong(api.ErrType, "X")}, {of(list(tInt)), of(tInt), wrong(api.ErrType, "X")}} {
				for range 2 {
					if e, name := Check(r.a, r.b); e != r.want.err || name != r.want.at {
						t.Fatalf("%d deep, kind %d: %v, %q", n, kind, e, name)
					}
					r.a, r.b = r.b, r.a
				}
				if len(Gone(r.a, r.b, "X")) != 0 {
					t.Fatal("a tag went")
				}
			}
		}
	}
}

// R1: types of many types that part only in the last one, or in how many they are.
func TestWide(t *testing.T) {
	const n = 200000
	wide := func() []api.Type {
		l := make([]api.Type, n)
		for i := range l {
			l[i] = named(strconv.Itoa(i))
		}
		return l
	}
	a, b := api.Type{Of: wide()}, api.Type{Of: wide()}
	if !Type(a, b) || Type(a, api.Type{Of: b.Of[:n-1]}) || Type(api.Type{Of: a.Of[1:]}, b) {
		t.Fatal("wide")
	}
	b.Of[n-1].Name += "0"
	if Type(a, b) || Type(b, a) {
		t.Fatal("wide, unlike in the last")
	}
}

// R1: types that have themselves within them have an answer, too.
func TestEndless(t *testing.T) {
	var l []api.Type
	for n := 1; n <= 3; n++ {
		for own := range n {
			of := make([]api.Type, n)
			for i := range of {
				of[i] = tInt
			}
			of[own] = api.Type{Kind: api.TList, Of: of}
			l = append(l, of[own])
		}
	}
	both := make([]api.Type, 2)
	both[0], both[1] = api.Type{Kind: api.TMap, Of: both}, api.Type{Kind: api.TMap, Of: both}
	l = append(l, both[0])
	for i, a := range l {
		for j, b := range l {
			if same := Type(a, b); same && i != j {
				t.Fatal("unlike types are the same")
			}
			if Type(a, tInt) || Type(list(tInt), b) || Type(a, wrapped(tInt, 5)) {
				t.Fatal("a type without an end is one with an end")
			}
		}
	}
}

// shortRows are all rows of the tags 1 to 3 of few types, rising or falling.
func shortRows(t *testing.T) []*desc.Desc {
	types := []api.Type{{}, tInt, tText, opt(tInt)}
	var ds []*desc.Desc
	for kind := 1; kind <= 4; kind++ {
		for n := range 64 {
			d := decl(kind, "X")
			for tag := 1; tag <= 3; tag++ {
				if x := n >> (2 * (tag - 1)) & 3; x > 0 {
					d.Fields = append(d.Fields, field(tag, "f"+strconv.Itoa(tag*(1+n%2)), types[x]))
				}
			}
			if n%3 == 0 {
				slices.Reverse(d.Fields)
			}
			if check.Check([]api.Decl{d}).Err == api.OK {
				ds = append(ds, made(t, d))
			}
		}
	}
	if len(ds) != 64+26+63+64 {
		t.Fatalf("%d schemas", len(ds))
	}
	return ds
}

// shortMethods are declarations of all kinds with up to two methods, of all that may be another one in a method, in both orders.
func shortMethods(t *testing.T) []*desc.Desc {
	variants := func(name string, tag int) []api.Method {
		return []api.Method{{}, method(tag, name, "P", "P"), method(tag+1, name, "P", "P"), method(tag, name, "Q", "P"), method(tag, name, "P", "Q"), oneWay(tag, name, "P", "P")}
	}
	var ds []*desc.Desc
	for kind := 1; kind <= 4; kind++ {
		for i, a := range variants("a", 11) {
			for j, b := range variants("b", 21) {
				d := decl(kind, "X", field(1, "r", tInt))
				if i > 0 {
					d.Methods = append(d.Methods, a)
				}
				if j > 0 {
					d.Methods = append(d.Methods, b)
				}
				if (i+j)%2 == 0 {
					slices.Reverse(d.Methods)
				}
				ds = append(ds, made(t, decl(api.DStruct, "P"), decl(api.DStruct, "Q"), d))
			}
		}
	}
	return ds
}

// 14.1 to 14.3: all short declarations against each other; and which takes the place of one that takes a third one's, with no row that went, takes that one's.
func TestShort(t *testing.T) {
	for _, ds := range [][]*desc.Desc{shortRows(t), shortMethods(t)} {
		takes, went := make([][]bool, len(ds)), make([][]bool, len(ds))
		for i, a := range ds {
			for _, b := range ds {
				heldOnce(t, a, b)
				e, _ := Check(a, b)
				takes[i] = append(takes[i], e == api.OK)
				went[i] = append(went[i], len(Gone(a, b, "X")) > 0)
			}
			if !takes[i][i] || went[i][i] {
				t.Fatalf("%v does not take its own place", a.Decls())
			}
		}
		n := chains(t, takes, went)
		if n < 1000 {
			t.Errorf("%d chains", n)
		}
	}
}

// chains asks of each three schemas, by their places, whether the third takes the first one's place, if it takes that of one that does; and counts them.
func chains(t *testing.T, takes, went [][]bool) int {
	t.Helper()
	n := 0
	for a := range takes {
		for b := range takes {
			if !takes[a][b] || went[a][b] {
				continue
			}
			for c := range takes {
				if !takes[b][c] || went[b][c] {
					continue
				}
				n++
				if !takes[a][c] || went[a][c] {
					t.Fatalf("%d, %d, %d", a, b, c)
				}
			}
		}
	}
	return n
}

// 14.3: a row that went, and came again as another one: the third schema takes the second one's place, but not the first one's.
func TestWentAndCame(t *testing.T) {
	a, b, c := read(t, "struct X { 1 a: int?; }"), read(t, "struct X { }"), read(t, "struct X { 1 a: text?; }")
	is(t, a, b, api.OK, "", api.OK, "")
	is(t, b, c, api.OK, "", api.OK, "")
	is(t, a, c, api.ErrType, "X", api.ErrType, "X")
	isGone(t, a, b, "X", 1)
	isGone(t, a, c, "X")
	isGone(t, b, c, "X")
}

// 14.2: tags of rows that went, rising, whatever their types, the kinds of the declarations and the order in the texts are.
func TestGone(t *testing.T) {
	old := read(t, "struct P { 9 a: int; 255 b: int?; 1 c: text; 7 d: list<P>; 30 e: E; } union U { 7 n: int; 2 m: P; } enum E { 9999 Z; 0 A; 256 M; 5 B; } service S { 1 get(P): P; } struct N { }")
	isGone(t, old, nil, "P", 1, 7, 9, 30, 255)
	isGone(t, old, nil, "U", 2, 7)
	isGone(t, old, nil, "E", 0, 5, 256, 9999)
	for _, name := range []string{"S", "N", "", "p", "P ", "a", "get", "A"} {
		isGone(t, old, nil, name)
		isGone(t, nil, old, name)
		isGone(t, old, old, name)
	}
	now := read(t, "enum P { 30 a; 8 b; 1 c; 0 d; } struct U { 7 n: text; 3 z: int?; } enum E { 1 B; 256 A; } union Z { 1 a: int; }")
	isGone(t, old, now, "P", 7, 9, 255)
	isGone(t, now, old, "P", 0, 8)
	isGone(t, old, now, "U", 2)
	isGone(t, now, old, "U", 3)
	isGone(t, old, now, "E", 0, 5, 9999)
	isGone(t, now, old, "E", 1)
	isGone(t, old, now, "Z")
	isGone(t, now, old, "Z", 1)
	for _, name := range []string{"P", "U", "E", "S", "N", "Z"} {
		isGone(t, old, old, name)
		isGone(t, now, now, name)
		isGone(t, nil, nil, name)
		isGone(t, nil, now, name)
	}
	// What an enum's values, and services, have beside; a method is no row.
	old = made(t, decl(api.DEnum, "E", field(4, "a", tInt), field(3, "b", opt(tInt))), with(decl(api.DService, "S", field(9, "a", tInt), field(5, "b", opt(tInt))), method(1, "m", "P", "P")), with(decl(api.DStruct, "P"), method(1, "m", "P", "P")))
	now = made(t, decl(api.DEnum, "E", value(4, "a")), decl(api.DService, "S", field(1, "m", tInt)))
	isGone(t, old, now, "E", 3)
	isGone(t, old, now, "S", 5, 9)
	isGone(t, old, now, "P")
	isGone(t, now, old, "S", 1)
	isGone(t, old, nil, "P")
}

// 14.2: tags in any order, of which each second, third, .. one went; all went, and none.
func TestGoneOrders(t *testing.T) {
	r := rand.New(rand.NewSource(142))
	for kind := 1; kind <= 4; kind++ {
		for step := 1; step <= 255; step += 1 + step/4 {
			var there, all []api.Field
			var want []int
			for tag := 1; tag <= 255; tag++ {
				f := field(tag, "n"+strconv.Itoa(tag), tInt)
				all = append(all, f)
				if tag%step == 0 {
					want = append(want, tag)
				} else {
					there = append(there, f)
				}
			}
			if len(there) == 0 {
				there = []api.Field{field(255, "z", tInt)}
				want = want[:254]
			}
			r.Shuffle(len(all), func(i, j int) { all[i], all[j] = all[j], all[i] })
			r.Shuffle(len(there), func(i, j int) { there[i], there[j] = there[j], there[i] })
			old, now := made(t, decl(kind, "X", all...)), made(t, decl(kind, "X", there...))
			isGone(t, old, now, "X", want...)
			isGone(t, now, old, "X")
		}
	}
}

// within is a list in a longer one: something lies ahead of it, and behind its end.
func within[T any](l []T, other T) []T {
	k := append(append([]T{other}, l...), other, other)
	return k[1 : 1+len(l)]
}

func typeWithin(x api.Type) api.Type {
	var of []api.Type
	for _, y := range x.Of {
		of = append(of, typeWithin(y))
	}
	x.Of = within(of, api.Type{Kind: -7, Name: "behind", Of: []api.Type{tInt}})
	return x
}

// wholeType is a type in memory of its own, with what lies behind its lists' ends.
func wholeType(x api.Type) api.Type {
	if x.Of == nil {
		return x
	}
	of := make([]api.Type, cap(x.Of))
	for i, y := range x.Of[:cap(x.Of)] {
		of[i] = wholeType(y)
	}
	x.Of = of
	return x
}

// R4: types that are handed in stay as they were, with what lies behind their lists' ends.
func TestTypesStay(t *testing.T) {
	for _, x := range unlikeTypes() {
		for _, y := range []api.Type{x, table(tInt, x), list(list(x))} {
			a, b := typeWithin(y), typeWithin(y)
			wasA, wasB := wholeType(a), wholeType(b)
			if !Type(a, b) || Type(a, list(b)) {
				t.Fatal(y)
			}
			if !reflect.DeepEqual(wholeType(a), wasA) || !reflect.DeepEqual(wholeType(b), wasB) {
				t.Fatalf("%v: it was another one ahead", y)
			}
		}
	}
}

// R4: schemas stay as they were.
func TestSchemasStay(t *testing.T) {
	for _, x := range edits() {
		l := x.made(parsed(t, baseText))
		old, now := read(t, baseText), made(t, l...)
		was, is := read(t, baseText), made(t, bare(l)...)
		held(t, old, now)
		if !old.Same(was) || !now.Same(is) || !reflect.DeepEqual(bare(now.Decls()), bare(l)) {
			t.Fatalf("%v: it was another one ahead", l)
		}
	}
}

// shared tells whether two texts have bytes in common.
func shared(a, b string) bool {
	x, y := uintptr(unsafe.Pointer(unsafe.StringData(a))), uintptr(unsafe.Pointer(unsafe.StringData(b)))
	return len(a) > 0 && len(b) > 0 && x < y+uintptr(len(b)) && y < x+uintptr(len(a))
}

// R4: what is handed out is own memory, each time anew.
func TestOwnMemory(t *testing.T) {
	old, now := read(t, "struct Pp { 5 a: int; 2 b: int; 3 c: int; }"), read(t, "struct Pp { 3 b: int; }")
	kept := Gone(old, now, "Pp")
	for range 3 {
		l := Gone(old, now, "Pp")
		for i := range l[:cap(l)] {
			l[:cap(l)][i] = -1
		}
		isGone(t, old, now, "Pp", 2, 5)
	}
	if !slices.Equal(kept, []int{2, 5}) {
		t.Fatal(kept)
	}
	_, a := Check(old, now)
	_, b := Check(old, now)
	for i, l := range [][2]string{{a, b}, {a, old.Decls()[0].Name}, {b, now.Decls()[0].Name}} {
		if l[0] != "Pp" || shared(l[0], l[1]) {
			t.Errorf("%d: %q, %q share memory", i, l[0], l[1])
		}
	}
	// A name that is asked for is not kept.
	name := []byte("Pp")
	tags := Gone(old, now, unsafe.String(&name[0], 2))
	clear(name)
	if !slices.Equal(tags, []int{2, 5}) {
		t.Fatal(tags)
	}
	isGone(t, old, now, "Pp", 2, 5)
}

// questions are all that may be asked of some schemas, of two at a time.
func questions(ds []*desc.Desc) []func() any {
	var l []func() any
	for _, a := range ds {
		for _, b := range ds {
			l = append(l, func() any {
				e, name := Check(a, b)
				return []any{e, name}
			})
			for _, name := range []string{"A", "U", "C", "S", "E", "Z", ""} {
				l = append(l, func() any { return append([]int{}, Gone(a, b, name)...) })
			}
		}
	}
	for _, x := range []api.Type{tInt, named("A"), list(named("A")), opt(tInt)} {
		for _, y := range []api.Type{tInt, named("A"), list(named("A")), opt(tInt)} {
			l = append(l, func() any { return Type(x, y) })
		}
	}
	return l
}

// someSchemas are three that are made afresh, and none.
func someSchemas(t *testing.T) []*desc.Desc {
	t.Helper()
	return []*desc.Desc{nil, read(t, baseText), read(t, "struct A { 1 a: int; 9 z: C?; } enum C { 3 A; 1 B; 0 C; } struct E { 9 a: int; }"), read(t, "enum C { 5 B; } union U { 1 a: int; 2 b: int; }")}
}

// R5: the same is answered each time, whichever is asked first.
func TestAnyOrder(t *testing.T) {
	var want []any
	for _, ask := range questions(someSchemas(t)) {
		want = append(want, ask())
	}
	r := rand.New(rand.NewSource(145))
	for range 60 {
		all := questions(someSchemas(t))
		order := r.Perm(len(all))
		for _, i := range append(order, r.Perm(len(all))...) {
			if got := all[i](); !reflect.DeepEqual(got, want[i]) {
				t.Fatalf("first %d, then %d: %v, not %v", order[0], i, got, want[i])
			}
		}
	}
}

// R5: whoever asks at the same time is answered the same.
func TestAtOnce(t *testing.T) {
	var want []any
	for _, ask := range questions(someSchemas(t)) {
		want = append(want, ask())
	}
	for range 30 {
		all := questions(someSchemas(t))
		got := make([][]any, 8)
		var wait sync.WaitGroup
		for i := range got {
			wait.Go(func() {
				for j := range all {
					got[i] = append(got[i], all[(i*7+j)%len(all)]())
				}
			})
		}
		wait.Wait()
		for i, answers := range got {
			for j, answer := range answers {
				if !reflect.DeepEqual(answer, want[(i*7+j)%len(all)]) {
					t.Fatalf("%v, not %v", answer, want[(i*7+j)%len(all)])
				}
			}
		}
	}
}

// R1: many declarations, and as many values and methods as an enum may have.
func TestMany(t *testing.T) {
	const n = 20000
	l := make([]api.Decl, n)
	for i := range l {
		l[i] = with(decl(api.DStruct, strconv.Itoa(i), field(2, "b", opt(tInt)), field(1, "a", list(named(strconv.Itoa((i+1)%n))))), method(3, "m", "0", "1"))
	}
	e := decl(api.DEnum, "E")
	for i := range 10000 {
		if i%2 == 0 {
			e.Fields = append(e.Fields, value((i*7919)%10000, strconv.Itoa(i)))
		} else {
			e.Methods = append(e.Methods, method((i*7919)%10000, strconv.Itoa(i), "0", "1"))
		}
	}
	l = append(l, e)
	old := made(t, l...)
	slices.Reverse(l)
	now := made(t, l...)
	if e, name := Check(old, now); e != api.OK || name != "" {
		t.Fatal(e, name)
	}
	k := bare(l)
	k[0].Methods[4999].Tag, k[0].Methods[4998].Tag = k[0].Methods[4998].Tag, k[0].Methods[4999].Tag
	k[0].Fields = k[0].Fields[:1]
	if e, name := Check(old, made(t, k...)); e != api.ErrTag || name != "E" {
		t.Fatal(e, name)
	}
	if tags := Gone(old, made(t, k...), "E"); len(tags) != 4999 || !slices.IsSorted(tags) {
		t.Fatal(len(tags))
	}
	k[0].Fields = l[0].Fields
	if e, name := Check(old, made(t, k...)); e != api.ErrType || name != "E" {
		t.Fatal(e, name)
	}
	k[5].Methods = nil
	if e, name := Check(old, made(t, k...)); e != api.ErrTag || name != strconv.Itoa(n-5) {
		t.Fatal(e, name)
	}
}

// chance makes declarations by chance.
type chance struct {
	*rand.Rand
}

// one is one of a few texts.
func (r chance) one(l ...string) string {
	return l[r.Intn(len(l))]
}

// typed is a type, most often one that may stand.
func (r chance) typed(deep int) api.Type {
	switch n := r.Intn(14); {
	case n < 2 && deep > 0:
		return list(r.typed(deep - 1))
	case n < 4 && deep > 0:
		return table([]api.Type{tBool, tInt, tUint, tText, named("n2")}[r.Intn(5)], r.typed(deep-1))
	case n < 8:
		return named(r.one("n0", "n1", "n2", "n2", "n2", "n4"))
	}
	return api.Type{Kind: 1 + r.Intn(5)}
}

// row is a field of a declaration of a kind.
func (r chance) row(kind, tag int) api.Field {
	f := field(tag, "r"+strconv.Itoa(r.Intn(1<<30)), r.typed(2))
	switch {
	case kind == api.DEnum && r.Intn(10) > 0:
		f.Type = api.Type{}
	case kind != api.DUnion && r.Intn(2) == 0:
		f.Type = opt(f.Type)
	}
	return f
}

// method is one, most often of few tags that no row has.
func (r chance) method() api.Method {
	return api.Method{Tag: 40 + r.Intn(200), Name: "m" + strconv.Itoa(r.Intn(8)), In: r.one("n0", "n4"), Out: r.one("n0", "n4"), OneWay: r.Intn(2) == 0}
}

// decls are declarations by chance, many of which are schemas.
func (r chance) decls() []api.Decl {
	var l []api.Decl
	for i, kind := range []int{api.DStruct, api.DUnion, api.DEnum, api.DService, api.DStruct} {
		d := decl(kind, "n"+strconv.Itoa(i))
		if kind != api.DService || r.Intn(4) == 0 {
			for _, tag := range r.Perm(20)[:1+r.Intn(5)] {
				d.Fields = append(d.Fields, r.row(kind, tag+1))
			}
		}
		if kind == api.DService || r.Intn(6) == 0 {
			for range r.Intn(4) {
				d.Methods = append(d.Methods, r.method())
			}
		}
		l = append(l, d)
	}
	r.Shuffle(len(l), func(i, j int) { l[i], l[j] = l[j], l[i] })
	return l
}

// change makes something of declarations another thing, more often such as may be.
func (r chance) change(l []api.Decl) []api.Decl {
	if r.Intn(12) == 0 {
		r.Shuffle(len(l), func(i, j int) { l[i], l[j] = l[j], l[i] })
		return append(l, decl(api.DStruct, "new"+strconv.Itoa(r.Intn(1<<30))))
	}
	d := &l[r.Intn(len(l))]
	switch n := r.Intn(10); {
	case n < 3:
		d.Fields = append(d.Fields, r.row(d.Kind, 1+r.Intn(30)))
	case n < 6 && len(d.Fields) > 1:
		i := r.Intn(len(d.Fields))
		d.Fields = slices.Delete(d.Fields, i, i+1)
	case n == 6 && len(d.Fields) > 0:
		i := r.Intn(len(d.Fields))
		d.Fields[i] = r.row(d.Kind, d.Fields[i].Tag)
	case n == 7:
		d.Methods = append(d.Methods, r.method())
	case n == 8 && len(d.Methods) > 0:
		d.Methods[0].OneWay = r.Intn(2) == 0
		d.Methods[0].In = r.one("n0", "n4")
	case n == 9:
		r.Shuffle(len(d.Fields), func(i, j int) { d.Fields[i], d.Fields[j] = d.Fields[j], d.Fields[i] })
		r.Shuffle(len(d.Methods), func(i, j int) { d.Methods[i], d.Methods[j] = d.Methods[j], d.Methods[i] })
	}
	return l
}

// chain are some schemas by chance, each a few changes from the one ahead; nil, if there is none to begin with.
func (r chance) chain() []*desc.Desc {
	l := r.decls()
	d, f := desc.Of(l)
	if f.Err != api.OK {
		return nil
	}
	ds := []*desc.Desc{d}
	for range 20 {
		k := bare(l)
		for range 1 + r.Intn(2) {
			k = r.change(k)
		}
		if d, f := desc.Of(k); f.Err == api.OK && len(ds) < 5 {
			l, ds = k, append(ds, d)
		}
	}
	return ds
}

// heldChain asks whether schemas are held against each other as the model says, and as 14.3 says; it counts what was told.
func heldChain(t *testing.T, ds []*desc.Desc, told map[api.Errno]int) int {
	t.Helper()
	takes, went := make([][]bool, len(ds)), make([][]bool, len(ds))
	for i, a := range ds {
		for _, b := range ds {
			heldOnce(t, a, b)
			e, _ := Check(a, b)
			told[e]++
			takes[i] = append(takes[i], e == api.OK)
			went[i] = append(went[i], slices.ContainsFunc(a.Decls(), func(d api.Decl) bool { return len(Gone(a, b, d.Name)) > 0 }))
		}
		if !takes[i][i] {
			t.Fatalf("%v does not take its own place", a.Decls())
		}
	}
	return chains(t, takes, went)
}

// 14.1 to 14.3: schemas by chance.
func TestByChance(t *testing.T) {
	r := chance{rand.New(rand.NewSource(14))}
	told := map[api.Errno]int{}
	n := 0
	for range 1500 {
		if ds := r.chain(); ds != nil {
			n += heldChain(t, append(ds, r.schema(t)), told)
		}
	}
	for _, e := range []api.Errno{api.OK, api.ErrName, api.ErrTag, api.ErrType} {
		if told[e] < 300 {
			t.Errorf("%v: %d", e, told[e])
		}
	}
	if n < 5000 {
		t.Errorf("%d chains", n)
	}
}

// schema is one by chance.
func (r chance) schema(t *testing.T) *desc.Desc {
	t.Helper()
	for range 10000 {
		if d, f := desc.Of(r.decls()); f.Err == api.OK {
			return d
		}
	}
	t.Fatal("no schema")
	return nil
}

func FuzzCompat(f *testing.F) {
	for _, s := range []string{"", baseText, "struct P { 1 a: int?; }", "enum E { 0 A; }", "union U { 1 n: int; } service S { 1 get(P): P; } struct P { }"} {
		f.Add(s, "struct P { 1 a: int; } enum E { 0 A; 1 B; }", int64(1))
	}
	f.Fuzz(func(t *testing.T, s, o string, seed int64) {
		a, x := desc.Read(s)
		b, y := desc.Read(o)
		if x.Err == api.OK || y.Err == api.OK {
			held(t, a, b) // one of them may be nil
		}
		heldChain(t, chance{rand.New(rand.NewSource(seed))}.chain(), map[api.Errno]int{})
	})
}
