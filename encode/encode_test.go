package encode

import (
	"fmt"
	"math"
	"math/rand"
	"slices"
	"strings"
	"sync"
	"testing"
	"unsafe"

	"concourse/api"
	"concourse/compat"
	"concourse/desc"
	"concourse/fit"
	"concourse/value"
)

// The types that a word alone tells, in short.
var (
	tBool  = api.Type{Kind: api.TBool}
	tInt   = api.Type{Kind: api.TInt}
	tUint  = api.Type{Kind: api.TUint}
	tText  = api.Type{Kind: api.TText}
	tBytes = api.Type{Kind: api.TBytes}
)

// made is a type of a kind, of these types.
func made(kind int, of ...api.Type) api.Type { return api.Type{Kind: kind, Of: of} }
func named(s string) api.Type                { return api.Type{Kind: api.TNamed, Name: s} }
func list(x api.Type) api.Type               { return made(api.TList, x) }
func table(k, v api.Type) api.Type           { return made(api.TMap, k, v) }
func opt(x api.Type) api.Type                { return made(api.TOpt, x) }

func field(n int, s string, x api.Type) api.Field { return api.Field{Tag: n, Name: s, Type: x} }

func decl(kind int, name string, l ...api.Field) api.Decl {
	return api.Decl{Kind: kind, Name: name, Fields: l}
}

func vBool(n int64) api.Value        { return api.Value{Kind: api.VBool, Num: n} }
func vInt(n int64) api.Value         { return api.Value{Kind: api.VInt, Num: n} }
func vUint(n uint64) api.Value       { return api.Value{Kind: api.VUint, Num: int64(n)} }
func vEnum(n int64) api.Value        { return api.Value{Kind: api.VEnum, Num: n} }
func vText(s string) api.Value       { return api.Value{Kind: api.VText, Text: s} }
func vBytes(s string) api.Value      { return api.Value{Kind: api.VBytes, Text: s} }
func vList(l ...api.Value) api.Value { return api.Value{Kind: api.VList, Items: l} }
func vMap(l ...api.Value) api.Value  { return api.Value{Kind: api.VMap, Items: l} }
func vUnion(n int, v api.Value) api.Value {
	return api.Value{Kind: api.VUnion, Tags: []int{n}, Items: []api.Value{v}}
}

func vStruct(tags []int, l ...api.Value) api.Value {
	return api.Value{Kind: api.VStruct, Tags: tags, Items: l}
}

func tags(l ...int) []int { return l }

// read is the schema of a text that is one.
func read(t *testing.T, s string) *desc.Desc {
	t.Helper()
	d, f := desc.Read(s)
	if f != (api.Fault{}) {
		t.Fatalf("%q: %v", s, f)
	}
	return d
}

// of is the schema of declarations that may be.
func of(t *testing.T, l ...api.Decl) *desc.Desc {
	t.Helper()
	d, f := desc.Of(l)
	if f != (api.Fault{}) {
		t.Fatalf("%v: %v", l, f)
	}
	return d
}

// is asks whether just these bytes, or this error, are told by Inside.
func is(t *testing.T, want string, err api.Errno, d *desc.Desc, x api.Type, v api.Value) {
	t.Helper()
	if s, e := held(t, d, x, v); s != want || e != err {
		t.Fatalf("Inside of %v and %v: %v, %v, not %v, %v", x, v, []byte(s), e, []byte(want), err)
	}
}

// isStruct asks the same of Encode.
func isStruct(t *testing.T, want string, err api.Errno, d *desc.Desc, name string, v api.Value) {
	t.Helper()
	if s, e := heldStruct(t, d, name, v); s != want || e != err {
		t.Fatalf("Encode of %q and %v: %v, %v, not %v, %v", name, v, []byte(s), e, []byte(want), err)
	}
	held(t, d, named(name), v)
}

// The chapter's example.
func TestExample(t *testing.T) {
	d := read(t, "struct P { 1 a: int; 2 b: text; }")
	v := vStruct(tags(1, 2), vInt(-1), vText("x"))
	isStruct(t, string([]byte{2, 1, 5, 1, 120}), api.OK, d, "P", v)
	is(t, string([]byte{2, 1, 5, 1, 120}), api.OK, d, named("P"), v)
}

const baseText = "struct P { 1 a: int; 3 b: text?; 4 c: list<E>?; 9 d: U?; } struct O { } struct R { 1 r: R?; 2 l: list<R>?; 3 m: map<int,R>?; 4 v: V?; }" +
	" union U { 2 n: int; 5 p: P; 7 e: E; 100 b: bytes; } union V { 1 r: R; 2 e: E; 3 v: V; } enum E { 0 A; 5 B; 128 C; 9999 D; } service S { 1 get(P): O; }" +
	" struct K { 10 j: map<text,int>; 64 g: P; 5 e: bytes; 3 c: uint; 255 k: E?; 1 a: bool; 63 f: E; 2 b: int; 4 d: text; 70 i: list<int>; 65 h: U; }"

// one is a type of baseText's schema, or of one that follows, whether its values are written as numbers, a value, and what is told of them: the inside, or a number's content; or an error.
type one struct {
	x   api.Type
	num bool
	v   api.Value
	in  string
	err api.Errno
}

// content is the content of its value.
func (o one) content() string {
	if o.num {
		return o.in
	}
	return spanned(o.in)
}

// numbers are values that are written as numbers.
func numbers() []one {
	num := func(x api.Type, v api.Value, s string) one { return one{x, true, v, s, api.OK} }
	e := named("E")
	nine := strings.Repeat("\xff", 9)
	return []one{
		num(tBool, vBool(0), "\x00"),
		num(tBool, vBool(1), "\x01"),
		num(tInt, vInt(0), "\x00"),
		num(tInt, vInt(-1), "\x01"),
		num(tInt, vInt(1), "\x02"),
		num(tInt, vInt(-2), "\x03"),
		num(tInt, vInt(63), "\x7e"),
		num(tInt, vInt(-64), "\x7f"),
		num(tInt, vInt(64), "\x80\x01"),
		num(tInt, vInt(-65), "\x81\x01"),
		num(tInt, vInt(150), "\xac\x02"),
		num(tInt, vInt(math.MaxInt64), "\xfe"+nine[:8]+"\x01"),
		num(tInt, vInt(math.MinInt64), nine+"\x01"),
		num(tInt, vInt(math.MinInt64+1), "\xfd"+nine[:8]+"\x01"),
		num(tUint, vUint(0), "\x00"),
		num(tUint, vUint(1), "\x01"),
		num(tUint, vUint(127), "\x7f"),
		num(tUint, vUint(128), "\x80\x01"),
		num(tUint, vUint(300), "\xac\x02"),
		num(tUint, vUint(1<<63-1), nine[:8]+"\x7f"),
		num(tUint, vUint(1<<63), strings.Repeat("\x80", 9)+"\x01"),
		num(tUint, vUint(math.MaxUint64), nine+"\x01"),
		num(e, vEnum(0), "\x00"),
		num(e, vEnum(5), "\x05"),
		num(e, vEnum(128), "\x80\x01"),
		num(e, vEnum(9999), "\x8f\x4e"),
		num(opt(tBool), vBool(1), "\x01"),
		num(opt(opt(tInt)), vInt(-3), "\x05"),
		num(opt(opt(tUint)), vUint(3), "\x03"),
		num(opt(opt(opt(e))), vEnum(5), "\x05"),
	}
}

// texts are texts and bytes.
func texts() []one {
	text := func(x api.Type, v api.Value) one { return one{x, false, v, v.Text, api.OK} }
	all := ""
	for c := range 256 {
		all += string([]byte{byte(c)})
	}
	return []one{
		text(tText, vText("")),
		text(tText, vText("a")),
		text(tText, vText("a\u20ac\x00!\U0010ffff")),
		text(tText, vText(strings.Repeat("b", 127))),
		text(tText, vText(strings.Repeat("\u00e4", 64))),
		text(tBytes, vBytes("")),
		text(tBytes, vBytes("\x00")),
		text(tBytes, vBytes("\xff\x80a")),
		text(tBytes, vBytes(all)),
		text(opt(tText), vText("x")),
		text(opt(opt(tBytes)), vBytes("\xc3")),
	}
}

// trees are lists, maps, structs and unions.
func trees() []one {
	tree := func(x api.Type, v api.Value, s string) one { return one{x, false, v, s, api.OK} }
	e, p, o, r, u, v, k := named("E"), named("P"), named("O"), named("R"), named("U"), named("V"), named("K")
	a := vStruct(tags(1), vInt(4)) // 2, 8
	none := vStruct(nil)
	return []one{
		tree(list(tInt), vList(), ""),
		tree(list(tInt), vList(vInt(1), vInt(-1), vInt(64)), "\x02\x01\x80\x01"),
		tree(list(tBool), vList(vBool(1), vBool(0), vBool(1)), "\x01\x00\x01"),
		tree(list(tText), vList(vText("ab"), vText(""), vText("c")), "\x02ab\x00\x01c"),
		tree(list(list(tText)), vList(vList(), vList(vText("a")), vList(vText(""), vText(""))), "\x00\x02\x01a\x02\x00\x00"),
		tree(list(opt(opt(e))), vList(vEnum(5), vEnum(9999)), "\x05\x8f\x4e"),
		tree(list(o), vList(none, none), "\x00\x00"),
		tree(list(p), vList(a, a), "\x02\x02\x08\x02\x02\x08"),
		tree(opt(list(opt(p))), vList(a), "\x02\x02\x08"),
		tree(table(tInt, tText), vMap(), ""),
		tree(table(tInt, tText), vMap(vInt(-1), vText("a"), vInt(2), vText("")), "\x01\x01a\x04\x00"),
		tree(table(tText, tInt), vMap(vText(""), vInt(1), vText("b"), vInt(-1)), "\x00\x02\x01b\x01"),
		tree(table(tUint, tBool), vMap(vUint(5), vBool(1), vUint(1<<63), vBool(0)), "\x05\x01"+strings.Repeat("\x80", 9)+"\x01\x00"),
		tree(table(tBool, table(tUint, tBytes)), vMap(vBool(0), vMap(), vBool(1), vMap(vUint(1), vBytes("\xff"))), "\x00\x00\x01\x03\x01\x01\xff"),
		tree(table(e, e), vMap(vEnum(0), vEnum(5), vEnum(9999), vEnum(0)), "\x00\x05\x8f\x4e\x00"),
		tree(table(opt(tText), opt(p)), vMap(vText("k"), a), "\x01k\x02\x02\x08"),
		tree(p, a, "\x02\x08"),
		tree(p, vStruct(tags(1, 3), vInt(-1), vText("")), "\x02\x01\x07\x00"),
		tree(p, vStruct(tags(1, 4), vInt(4), vList(vEnum(5), vEnum(0), vEnum(5))), "\x02\x08\x09\x03\x05\x00\x05"),
		tree(p, vStruct(tags(1, 3, 4, 9), vInt(4), vText("a"), vList(), vUnion(5, a)), "\x02\x08\x07\x01a\x09\x00\x13\x04\x0b\x02\x02\x08"),
		tree(opt(p), a, "\x02\x08"),
		tree(o, none, ""),
		tree(u, vUnion(2, vInt(-1)), "\x04\x01"),
		tree(u, vUnion(5, a), "\x0b\x02\x02\x08"),
		tree(u, vUnion(7, vEnum(9999)), "\x0e\x8f\x4e"),
		tree(u, vUnion(100, vBytes("\xff")), "\xc9\x01\x01\xff"),
		tree(opt(opt(u)), vUnion(100, vBytes("")), "\xc9\x01\x00"),
		tree(r, none, ""),
		tree(r, vStruct(tags(1), vStruct(tags(1), none)), "\x03\x02\x03\x00"),
		tree(r, vStruct(tags(1, 2, 3), none, vList(none, vStruct(tags(2), vList())), vMap(vInt(2), none)), "\x03\x00\x05\x04\x00\x02\x05\x00\x07\x02\x04\x00"),
		tree(r, vStruct(tags(4), vUnion(1, vStruct(tags(4), vUnion(2, vEnum(5))))), "\x09\x06\x03\x04\x09\x02\x04\x05"),
		tree(v, vUnion(3, vUnion(3, vUnion(2, vEnum(0)))), "\x07\x04\x07\x02\x04\x00"),
		tree(k, vStruct(tags(1, 2, 3, 4, 5, 10, 63, 64, 65, 70), vBool(1), vInt(-64), vUint(128), vText("\u00e4"), vBytes("\xff"), vMap(vText("a"), vInt(5)), vEnum(128), a, vUnion(7, vEnum(5)), vList(vInt(1))),
			"\x02\x01\x04\x7f\x06\x80\x01\x09\x02\xc3\xa4\x0b\x01\xff\x15\x03\x01a\x0a\x7e\x80\x01\x81\x01\x02\x02\x08\x83\x01\x02\x0e\x05\x8d\x01\x01\x02"),
		tree(k, vStruct(tags(1, 2, 3, 4, 5, 10, 63, 64, 65, 70, 255), vBool(0), vInt(0), vUint(0), vText(""), vBytes(""), vMap(), vEnum(0), a, vUnion(2, vInt(0)), vList(), vEnum(5)),
			"\x02\x00\x04\x00\x06\x00\x09\x00\x0b\x00\x15\x00\x7e\x00\x81\x01\x02\x02\x08\x83\x01\x02\x04\x00\x8d\x01\x00\xfe\x03\x05"),
	}
}

func fine() []one { return slices.Concat(numbers(), texts(), trees()) }

// wrong are values that are not of a type, and types that are none of the schema's.
func wrong() []one {
	bad := func(x api.Type, v api.Value, e api.Errno) one { return one{x, false, v, "", e} }
	e, p, u := named("E"), named("P"), named("U")
	deep := nested(vInt(1), 8)
	return []one{
		bad(tBool, vBool(2), api.ErrForm),
		bad(tBool, vBool(-1), api.ErrForm),
		bad(e, vEnum(10000), api.ErrForm),
		bad(e, vEnum(-1), api.ErrForm),
		bad(tText, vText("a\xff"), api.ErrForm),
		bad(tInt, api.Value{Kind: api.VInt, Num: 1, Text: "a"}, api.ErrForm),
		bad(tText, api.Value{Kind: api.VText, Num: 1}, api.ErrForm),
		bad(tInt, api.Value{}, api.ErrForm),
		bad(list(tInt), api.Value{Kind: api.VList, Tags: tags(1), Items: []api.Value{vInt(1)}}, api.ErrForm),
		bad(list(tBool), vList(vBool(1), vBool(2)), api.ErrForm),
		bad(table(tInt, tInt), vMap(vInt(1)), api.ErrForm),
		bad(table(tInt, tInt), vMap(vInt(2), vInt(1), vInt(1), vInt(1)), api.ErrForm),
		bad(table(tInt, tInt), vMap(vInt(1), vInt(1), vInt(1), vInt(2)), api.ErrForm),
		bad(p, vStruct(tags(3, 1), vText(""), vInt(1)), api.ErrForm),
		bad(p, vStruct(tags(1), vInt(1), vInt(1)), api.ErrForm),
		bad(p, vStruct(tags(1, 3), vInt(1)), api.ErrForm),
		bad(p, vStruct(tags(0, 1), vInt(1), vInt(1)), api.ErrForm),
		bad(p, vStruct(tags(1, 256), vInt(1), vInt(1)), api.ErrForm),
		bad(u, api.Value{Kind: api.VUnion}, api.ErrForm),
		bad(u, api.Value{Kind: api.VUnion, Tags: tags(2, 7), Items: []api.Value{vInt(1), vEnum(5)}}, api.ErrForm),
		bad(tInt, deep, api.ErrDeep),
		bad(nestedType(api.TList, tInt, 8), deep, api.ErrDeep),
		bad(tInt, vUint(1), api.ErrKind),
		bad(tUint, vInt(1), api.ErrKind),
		bad(tBool, vUint(1), api.ErrKind),
		bad(tText, vBytes("a"), api.ErrKind),
		bad(tBytes, vText("a"), api.ErrKind),
		bad(e, vUint(5), api.ErrKind),
		bad(tUint, vEnum(5), api.ErrKind),
		bad(opt(opt(tInt)), vText(""), api.ErrKind),
		bad(list(tInt), vInt(1), api.ErrKind),
		bad(list(tInt), vMap(), api.ErrKind),
		bad(list(tInt), vList(vInt(1), vUint(1)), api.ErrKind),
		bad(table(tInt, tText), vList(), api.ErrKind),
		bad(table(tInt, tText), vMap(vText("a"), vInt(1)), api.ErrKind),
		bad(table(tInt, tText), vMap(vInt(1), vInt(1)), api.ErrKind),
		bad(p, vStruct(tags(1), vUint(4)), api.ErrKind),
		bad(p, vUnion(1, vInt(4)), api.ErrKind),
		bad(u, vStruct(tags(2), vInt(4)), api.ErrKind),
		bad(u, vUnion(5, vInt(4)), api.ErrKind),
		bad(e, vEnum(1), api.ErrTag),
		bad(list(e), vList(vEnum(5), vEnum(4)), api.ErrTag),
		bad(p, vStruct(tags(1, 2), vInt(4), vInt(4)), api.ErrTag),
		bad(u, vUnion(1, vInt(4)), api.ErrTag),
		bad(named("O"), vStruct(tags(1), vInt(4)), api.ErrTag),
		bad(p, vStruct(nil), api.ErrNone),
		bad(p, vStruct(tags(3), vText("a")), api.ErrNone),
		bad(u, vUnion(5, vStruct(nil)), api.ErrNone),
		bad(named("S"), vStruct(nil), api.ErrType),
		bad(named("Z"), vStruct(nil), api.ErrType),
		bad(named(""), vInt(1), api.ErrType),
		bad(api.Type{}, vInt(1), api.ErrType),
		bad(made(10), vInt(1), api.ErrType),
		bad(made(api.TList), vList(), api.ErrType),
		bad(made(api.TList, tInt, tInt), vList(), api.ErrType),
		bad(made(api.TMap, tInt), vMap(), api.ErrType),
		bad(made(api.TOpt), vInt(1), api.ErrType),
		bad(made(api.TOpt, tInt, tInt), vInt(1), api.ErrType),
		bad(opt(opt(named("Z"))), vInt(1), api.ErrType),
		bad(list(named("Z")), vList(vInt(1)), api.ErrType),
	}
}

// nested is a value within so many lists.
func nested(v api.Value, n int) api.Value {
	for range n {
		v = vList(v)
	}
	return v
}

// nestedType is a type within so many of a kind.
func nestedType(kind int, x api.Type, n int) api.Type {
	for range n {
		x = made(kind, x)
	}
	return x
}

// 17.1: values of each kind of type, by themselves; and those that are not.
func TestOnes(t *testing.T) {
	d := read(t, baseText)
	for _, o := range slices.Concat(fine(), wrong()) {
		is(t, o.in, o.err, d, o.x, o.v)
		if o.x.Kind == api.TNamed && d.Kind(o.x.Name) == api.DStruct {
			isStruct(t, o.in, o.err, d, o.x.Name, o.v)
		}
	}
}

// 17.1: each value of them with each type of them: what is of a type has bytes, what is not has Fits' error.
func TestEachOther(t *testing.T) {
	d := read(t, baseText)
	all := slices.Concat(fine(), wrong())
	told := map[api.Errno]int{}
	for _, a := range all {
		for _, b := range all {
			_, e := held(t, d, a.x, b.v)
			told[e]++
		}
	}
	for _, e := range []api.Errno{api.OK, api.ErrForm, api.ErrKind, api.ErrTag, api.ErrNone, api.ErrType, api.ErrDeep} {
		if told[e] < 40 {
			t.Fatal(told)
		}
	}
}

// 17.1: a number of each power of two, and those beside it, with and without a sign.
func TestBits(t *testing.T) {
	for bit := range 64 {
		for _, n := range []uint64{1<<bit - 1, 1 << bit, 1<<bit + 1, math.MaxUint64 << bit, 5 << bit} {
			is(t, number(n), api.OK, nil, tUint, vUint(n))
			is(t, turned(int64(n)), api.OK, nil, tInt, vInt(int64(n)))
			is(t, turned(-int64(n)), api.OK, nil, opt(tInt), vInt(-int64(n)))
			is(t, number(n)+"\x05"+number(n), api.OK, nil, list(tUint), vList(vUint(n), vUint(5), vUint(n)))
		}
	}
	for n := int64(-300); n <= 300; n++ {
		is(t, turned(n), api.OK, nil, tInt, vInt(n))
	}
	for n := range uint64(600) {
		is(t, number(n), api.OK, nil, tUint, vUint(n))
	}
}

// 17.1: an enum of each value that there may be.
func TestEnums(t *testing.T) {
	var rows []api.Field
	for n := range 10000 {
		rows = append(rows, field(9999-n, fmt.Sprint("v", n), api.Type{}))
	}
	d := of(t, decl(api.DEnum, "E", rows...))
	for n := range int64(10000) {
		if s, e := Inside(d, named("E"), vEnum(n)); s != number(uint64(n)) || e != api.OK {
			t.Fatal(n, s, e)
		}
	}
}

// 17.1: texts and bytes of each byte, of each two, and of runes of each length.
func TestAnyBytes(t *testing.T) {
	for c := range 1 << 16 {
		b := string([]byte{byte(c), byte(c >> 8)})
		for _, s := range []string{b, b[:1]} {
			if got, e := Inside(nil, list(tBytes), vList(vBytes(s))); got != spanned(s) || e != api.OK {
				t.Fatal([]byte(s), got, e)
			}
			if got, e := Inside(nil, tBytes, vBytes(s)); got != s || e != api.OK {
				t.Fatal([]byte(s), got, e)
			}
		}
	}
	for _, r := range []rune{0, 'a', 127, 128, 0x7ff, 0x800, 0xd7ff, 0xe000, 0xfffd, 0xffff, 0x10000, 0x10ffff} {
		s := string(r)
		is(t, s, api.OK, nil, tText, vText(s))
		is(t, spanned(s)+spanned(s+s), api.OK, nil, list(tText), vList(vText(s), vText(s+s)))
	}
}

// told is a schema's declarations, a type of it, a value, and what is told of them.
type told struct {
	l []api.Decl
	one
}

// declared is the same with one declaration more, of a name of its own; the type is that declaration's.
func (o told) declared(kind int, v api.Value, in string, rows ...api.Field) told {
	name := "W" + string(rune('a'+len(o.l)))
	return told{append(slices.Clone(o.l), decl(kind, name, rows...)), one{named(name), false, v, in, o.err}}
}

// inField is a field of a tag with the value's content.
func (o told) inField(tag int) string {
	wire := 1
	if o.num {
		wire = 0
	}
	return number(uint64(2*tag+wire)) + o.content()
}

// wraps put a type and its value within others.
func wraps() []func(o told) told {
	within := func(o told, x api.Type, v api.Value, in string) told { return told{o.l, one{x, false, v, in, o.err}} }
	return []func(o told) told{
		func(o told) told { return told{o.l, one{opt(o.x), o.num, o.v, o.in, o.err}} },
		func(o told) told { return told{o.l, one{opt(opt(o.x)), o.num, o.v, o.in, o.err}} },
		func(o told) told { return within(o, list(o.x), vList(o.v), o.content()) },
		func(o told) told {
			return within(o, list(o.x), vList(o.v, o.v, o.v), o.content()+o.content()+o.content())
		},
		func(o told) told { return within(o, list(opt(opt(o.x))), vList(o.v), o.content()) },
		func(o told) told { return within(o, table(tInt, o.x), vMap(vInt(-3), o.v), "\x05"+o.content()) },
		func(o told) told {
			return within(o, table(named("E"), opt(o.x)), vMap(vEnum(0), o.v, vEnum(128), o.v), "\x00"+o.content()+"\x80\x01"+o.content())
		},
		func(o told) told {
			v := vStruct(tags(2, 6, 200), vInt(1), o.v, vText("a"))
			return o.declared(api.DStruct, v, "\x04\x02"+o.inField(6)+"\x91\x03\x01a", field(200, "z", opt(tText)), field(6, "x", o.x), field(2, "a", tInt))
		},
		func(o told) told {
			v := vStruct(tags(64), o.v)
			return o.declared(api.DStruct, v, o.inField(64), field(3, "a", opt(tInt)), field(64, "x", opt(o.x)), field(90, "b", opt(tText)))
		},
		func(o told) told {
			return o.declared(api.DUnion, vUnion(255, o.v), o.inField(255), field(1, "a", tInt), field(255, "x", o.x))
		},
	}
}

// keyed puts a type and its value within a map, as its keys.
func keyed(o told) told {
	return told{o.l, one{table(o.x, tBool), false, vMap(o.v, vBool(0)), o.content() + "\x00", o.err}}
}

// settled is the same with what is told if its value is too deep.
func (o told) settled() told {
	if o.err != api.ErrForm && value.Deep(o.v) > 8 {
		o.err = api.ErrDeep
	}
	if o.err != api.OK {
		o.in = ""
	}
	return o
}

// isTold asks whether just this is told by Inside, and by Encode of a struct that has such a row, as far as the declarations may be; it tells whether both were asked.
func isTold(t *testing.T, o told) bool {
	t.Helper()
	if d, f := desc.Of(o.l); f == (api.Fault{}) {
		x := o.settled()
		is(t, x.in, x.err, d, x.x, x.v)
	}
	row := o.declared(api.DStruct, vStruct(tags(7), o.v), o.inField(7), field(9, "z", opt(tInt)), field(7, "y", o.x)).settled()
	d, f := desc.Of(row.l)
	if f != (api.Fault{}) {
		return false
	}
	if len(row.in) > 1024 {
		row.in, row.err = "", api.ErrLong
	}
	isStruct(t, row.in, row.err, d, row.x.Name, row.v)
	return true
}

// mayBeKey tells whether a value may be a map's key.
func mayBeKey(v api.Value) bool {
	return slices.Contains([]int{api.VBool, api.VInt, api.VUint, api.VText, api.VEnum}, v.Kind)
}

// 17.1: each of them within lists, maps, options, structs and unions, two levels deep, and keys of maps.
func TestWithin(t *testing.T) {
	base := read(t, baseText).Decls()
	n := map[api.Errno]int{}
	for _, o := range slices.Concat(fine(), wrong()) {
		bare := told{base, o}
		if mayBeKey(o.v) {
			isTold(t, keyed(bare))
		}
		for _, a := range wraps() {
			if isTold(t, a(bare)) {
				n[o.err]++
			}
			for _, b := range wraps() {
				if isTold(t, b(a(bare))) {
					n[o.err]++
				}
			}
			if mayBeKey(o.v) {
				isTold(t, a(keyed(bare)))
			}
		}
	}
	if n[api.OK] < 3000 || n[api.ErrForm] < 800 || n[api.ErrKind] < 700 || n[api.ErrTag] < 200 || n[api.ErrNone] < 100 || n[api.ErrDeep] < 50 {
		t.Fatal(n)
	}
}

// 17.1: some of them four and six levels deep.
func TestDeepWithin(t *testing.T) {
	base := read(t, baseText).Decls()
	all := wraps()
	for i, o := range slices.Concat(fine(), wrong()) {
		for j := range 100 {
			x := told{base, o}
			for _, k := range []int{j, j / 3, i + j/10, j * 7} {
				x = all[k%len(all)](x)
			}
			isTold(t, x)
			if j%10 == 0 {
				isTold(t, all[i%10](all[(i+j/10)%10](x)))
			}
		}
	}
}

// 17.1: a struct with any of its rows, which stand in the schema's text in another order.
func TestRows(t *testing.T) {
	d := read(t, "struct P { 70 d: text; 1 a: int; 63 c: bool?; 3 b: int?; 255 f: P?; 64 e: uint?; }")
	rows := []struct {
		tag  int
		v    api.Value
		in   string
		must bool
	}{
		{1, vInt(1), "\x02\x02", true},
		{3, vInt(-2), "\x06\x03", false},
		{63, vBool(1), "~\x01", false},
		{64, vUint(200), "\x80\x01\xc8\x01", false},
		{70, vText("a"), "\x8d\x01\x01a", true},
		{255, vStruct(tags(1, 70), vInt(0), vText("")), "\xff\x03\x05\x02\x00\x8d\x01\x00", false},
	}
	for set := range 1 << len(rows) {
		v, want, err := vStruct(nil), "", api.OK
		for i, row := range rows {
			if set>>i&1 == 1 {
				v.Tags, v.Items, want = append(v.Tags, row.tag), append(v.Items, row.v), want+row.in
			} else if row.must {
				err = api.ErrNone
			}
		}
		if err != api.OK {
			want = ""
		}
		isStruct(t, want, err, d, "P", v)
		is(t, want, err, d, opt(opt(named("P"))), v)
		if err == api.OK {
			want = spanned(want) + spanned(want)
		}
		is(t, want, err, d, list(named("P")), vList(v, v))
	}
}

// 17.1: keys of each tag, of one byte and of two, of both wires, in structs and in unions.
func TestKeys(t *testing.T) {
	var rows []api.Field
	all, want := vStruct(nil), ""
	for tag := 1; tag <= 255; tag++ {
		x := []api.Type{tInt, tText}[tag%2]
		rows = append(rows, field(tag, fmt.Sprint("f", tag), opt(x)))
	}
	slices.Reverse(rows)
	d := of(t, decl(api.DStruct, "P", rows...), decl(api.DUnion, "U", field(9, "a", tInt)))
	for tag := 1; tag <= 255; tag++ {
		// 2 tag, and 1 if the item is a span.
		n, v, content := 2*tag, vInt(-2), "\x03"
		if tag%2 == 1 {
			n, v, content = 2*tag+1, vText("a"), "\x01a"
		}
		key := string([]byte{byte(n)})
		if n > 127 {
			key = string([]byte{byte(n%128) | 128, byte(n / 128)})
		}
		isStruct(t, key+content, api.OK, d, "P", vStruct(tags(tag), v))
		u := of(t, decl(api.DUnion, "U", field(tag, "a", []api.Type{tInt, tText}[tag%2])))
		is(t, key+content, api.OK, u, named("U"), vUnion(tag, v))
		all.Tags, all.Items, want = append(all.Tags, tag), append(all.Items, v), want+key+content
	}
	is(t, want, api.OK, d, named("P"), all)
	isStruct(t, want, api.OK, d, "P", all)
}

// 17.1: spans of each length up to 300, and about those at which the length has a byte more: of texts, bytes, lists, maps, structs and unions.
func TestSpans(t *testing.T) {
	d := read(t, "struct P { 1 a: bytes; } union U { 1 a: text; } struct L { 1 a: list<bool>?; 2 b: map<uint,bool>?; }")
	lengths := []int{16382, 16383, 16384, 16385, 70000, 1<<21 - 1, 1 << 21}
	for n := range 301 {
		lengths = append(lengths, n)
	}
	for _, n := range lengths {
		s := strings.Repeat("a", n)
		ahead := number(uint64(n))
		for x, v := range map[int]api.Value{api.TText: vText(s), api.TBytes: vBytes(s)} {
			if got, e := Inside(nil, list(made(x)), vList(v, v)); got != ahead+s+ahead+s || e != api.OK {
				t.Fatal(n, len(got), e)
			}
		}
		if got, e := Inside(d, list(named("P")), vList(vStruct(tags(1), vBytes(s)))); got != spanned("\x03"+ahead+s) || e != api.OK {
			t.Fatal(n, len(got), e)
		}
		if got, e := Inside(d, list(named("U")), vList(vUnion(1, vText(s)))); got != spanned("\x03"+ahead+s) || e != api.OK {
			t.Fatal(n, len(got), e)
		}
		if n > 70000 {
			continue
		}
		l := vList(slices.Repeat([]api.Value{vBool(1)}, n)...)
		if got, e := Inside(d, named("L"), vStruct(tags(1), l)); got != "\x03"+ahead+strings.Repeat("\x01", n) || e != api.OK {
			t.Fatal(n, len(got), e)
		}
		m, want := vMap(), ""
		for i := range n / 2 {
			m.Items, want = append(m.Items, vUint(uint64(i)), vBool(0)), want+number(uint64(i))+"\x00"
		}
		if got, e := Inside(d, named("L"), vStruct(tags(2), m)); got != "\x05"+spanned(want) || e != api.OK {
			t.Fatal(n, len(got), e)
		}
	}
}

// 17.1: empty lists, maps, texts and structs, at the top and within.
func TestEmpty(t *testing.T) {
	d := read(t, "struct O { } struct Q { 1 a: list<O>?; 2 b: map<int,O>?; 3 c: text?; 4 d: O?; 5 e: U?; } union U { 1 o: O; }")
	empty := vStruct(nil)
	for _, o := range []one{
		{x: list(tInt), v: vList()},
		{x: table(tInt, tInt), v: vMap()},
		{x: tText, v: vText("")},
		{x: tBytes, v: vBytes("")},
		{x: named("O"), v: empty},
		{x: named("Q"), v: empty},
	} {
		is(t, "", api.OK, d, o.x, o.v)
		is(t, "", api.OK, d, opt(o.x), o.v)
		is(t, "\x00\x00", api.OK, d, list(o.x), vList(o.v, o.v))
		is(t, "\x02\x00\x00\x00", api.OK, d, list(list(o.x)), vList(vList(o.v, o.v), vList()))
		is(t, "\x02\x00\x04\x00", api.OK, d, table(tInt, o.x), vMap(vInt(1), o.v, vInt(2), o.v))
		// Of an empty list nothing is asked what it is of.
		is(t, "", api.OK, d, list(made(99)), vList())
		is(t, "", api.OK, d, table(named("Z"), made(api.TOpt)), vMap())
	}
	isStruct(t, "", api.OK, d, "O", empty)
	isStruct(t, "", api.OK, d, "Q", empty)
	all := vStruct(tags(1, 2, 3, 4, 5), vList(), vMap(), vText(""), empty, vUnion(1, empty))
	isStruct(t, "\x03\x00\x05\x00\x07\x00\x09\x00\x0b\x02\x03\x00", api.OK, d, "Q", all)
}

// 17.1: options within one another, of each wire.
func TestOptions(t *testing.T) {
	d := read(t, baseText)
	for _, o := range fine() {
		for n := range 6 {
			x := nestedType(api.TOpt, o.x, n)
			is(t, o.in, api.OK, d, x, o.v)
			is(t, o.content()+o.content(), api.OK, d, list(x), vList(o.v, o.v))
			is(t, "\x05"+o.content(), api.OK, d, table(tUint, x), vMap(vUint(5), o.v))
			is(t, "", api.ErrType, d, nestedType(api.TOpt, made(api.TOpt), n), o.v)
		}
	}
	// As many as the document's bound lets be, of many items.
	const n = 1<<16 - 1
	for x, v := range map[int]api.Value{api.TInt: vInt(-2), api.TText: vText("abc")} {
		deep := nestedType(api.TOpt, made(x), n)
		want := map[int]string{api.TInt: "\x03", api.TText: "\x03abc"}[x]
		if s, e := Inside(nil, list(deep), vList(slices.Repeat([]api.Value{v}, 20000)...)); s != strings.Repeat(want, 20000) || e != api.OK {
			t.Fatal(x, len(s), e)
		}
	}
}

// filled are structs of baseLong's schema with bytes of a length, made up in different ways.
func filled(n int) map[string]api.Value {
	text := strings.Repeat("x", n)
	bools := slices.Repeat([]api.Value{vBool(1)}, n)
	// A key has a byte, or two, a length has two.
	return map[string]api.Value{
		"text":   vStruct(tags(1), vText(text[3:])),
		"bytes":  vStruct(tags(200), vBytes(text[4:])),
		"list":   vStruct(tags(2), vList(bools[3:]...)),
		"struct": vStruct(tags(3), vStruct(tags(1), vText(text[6:]))),
		"union":  vStruct(tags(4), vUnion(3, vUnion(1, vText(text[9:])))),
		"last":   vStruct(tags(1, 201), vText(text[6:]), vInt(-1)),
		"map":    vStruct(tags(5), vMap(vInt(1), vText(text[6:]))),
		"two":    vStruct(tags(1, 200), vText(text[:500]), vBytes(text[:n-507])),
	}
}

const baseLong = "struct L { 1 a: text?; 2 b: list<bool>?; 3 c: L?; 4 d: U?; 5 e: map<int,text>?; 200 f: bytes?; 201 g: int?; } union U { 1 a: text; 3 u: U; }"

// 17.1: structs whose bytes are as many as may be, some less, and one more, or more.
func TestMaxBody(t *testing.T) {
	d := read(t, baseLong)
	lengths := []int{800, 900, 1000, 1100, 1279, 1280, 1281}
	for n := 1014; n < 1040; n++ {
		lengths = append(lengths, n)
	}
	for _, n := range lengths {
		for way, v := range filled(n) {
			want := modelInside(d.Decls(), named("L"), v)
			if len(want) != n {
				t.Fatal(way, n, len(want))
			}
			is(t, want, api.OK, d, named("L"), v)
			is(t, spanned(want), api.OK, d, list(named("L")), vList(v))
			if n <= 1024 {
				isStruct(t, want, api.OK, d, "L", v)
			} else {
				isStruct(t, "", api.ErrLong, d, "L", v)
			}
		}
	}
	for _, n := range []int{2048, 1<<16 + 1, 1<<16 + 1024, 1 << 20} {
		v := vStruct(tags(1), vText(strings.Repeat("x", n)))
		isStruct(t, "", api.ErrLong, d, "L", v)
		is(t, "\x03"+spanned(v.Items[0].Text), api.OK, d, named("L"), v)
	}
}

// 17.1: what is wrong is told ahead of bytes that are too many.
func TestWrongAndLong(t *testing.T) {
	d := read(t, "struct P { 1 a: int; 2 b: text?; 3 c: E?; 4 d: P?; 5 e: list<list<list<list<list<list<list<list<int>>>>>>>>?; } enum E { 3 A; } union U { 1 p: text; } service S { 1 m(P): P; }")
	long := vText(strings.Repeat("x", 2000))
	isStruct(t, "", api.ErrLong, d, "P", vStruct(tags(1, 2), vInt(1), long))
	isStruct(t, "", api.ErrNone, d, "P", vStruct(tags(2), long))
	isStruct(t, "", api.ErrKind, d, "P", vStruct(tags(1, 2), vUint(1), long))
	isStruct(t, "", api.ErrKind, d, "P", vStruct(tags(1, 2), vInt(1), vBytes(long.Text)))
	isStruct(t, "", api.ErrTag, d, "P", vStruct(tags(1, 2, 3), vInt(1), long, vEnum(4)))
	isStruct(t, "", api.ErrTag, d, "P", vStruct(tags(1, 2, 9), vInt(1), long, vInt(4)))
	isStruct(t, "", api.ErrNone, d, "P", vStruct(tags(1, 2, 4), vInt(1), long, vStruct(nil)))
	isStruct(t, "", api.ErrForm, d, "P", vStruct(tags(1, 2), vInt(1), vText(long.Text+"\xff")))
	isStruct(t, "", api.ErrForm, d, "P", vStruct(tags(1, 2, 2), vInt(1), long, long))
	isStruct(t, "", api.ErrDeep, d, "P", vStruct(tags(1, 2, 5), vInt(1), long, nested(vInt(1), 8)))
	isStruct(t, "", api.ErrKind, d, "P", long)
	for _, name := range []string{"U", "E", "S", "Z", "", "p"} {
		isStruct(t, "", api.ErrType, d, name, vStruct(tags(1, 2), vInt(1), long))
		isStruct(t, "", api.ErrType, d, name, vUnion(1, long))
		isStruct(t, "", api.ErrType, d, name, long)
	}
}

// deeper are values that are each within another one of its kind, and their insides.
type deeper struct {
	x    api.Type
	v    api.Value
	in   string
	more func(v api.Value, in string) (api.Value, string)
}

// 17.1: values up to MaxDeep deep, and deeper ones.
func TestDeep(t *testing.T) {
	d := read(t, baseText)
	r, u := named("R"), named("V")
	for _, o := range []deeper{
		{nestedType(api.TList, tInt, 12), vList(), "", func(v api.Value, in string) (api.Value, string) { return vList(v), spanned(in) }},
		{nestedType(api.TList, tInt, 12), vList(), "", func(v api.Value, in string) (api.Value, string) {
			return vList(v, vList()), spanned(in) + "\x00"
		}},
		{r, vStruct(nil), "", func(v api.Value, in string) (api.Value, string) { return vStruct(tags(1), v), "\x03" + spanned(in) }},
		{r, vStruct(nil), "", func(v api.Value, in string) (api.Value, string) {
			return vStruct(tags(2), vList(v)), "\x05" + spanned(spanned(in))
		}},
		{r, vStruct(nil), "", func(v api.Value, in string) (api.Value, string) {
			return vStruct(tags(3), vMap(vInt(7), v)), "\x07" + spanned("\x0e"+spanned(in))
		}},
		{r, vStruct(nil), "", func(v api.Value, in string) (api.Value, string) {
			return vStruct(tags(4), vUnion(1, v)), "\x09" + spanned("\x03"+spanned(in))
		}},
		{u, vUnion(2, vEnum(5)), "\x04\x05", func(v api.Value, in string) (api.Value, string) { return vUnion(3, v), "\x07" + spanned(in) }},
	} {
		for value.Deep(o.v) < 13 {
			in, err := o.in, api.OK
			if value.Deep(o.v) > 8 {
				in, err = "", api.ErrDeep
				is(t, "", err, d, named("Z"), o.v)
				isStruct(t, "", api.ErrType, d, "Z", o.v)
			}
			is(t, in, err, d, o.x, o.v)
			is(t, in, err, d, opt(o.x), o.v)
			if d.Kind(o.x.Name) == api.DStruct {
				isStruct(t, in, err, d, o.x.Name, o.v)
			}
			o.v, o.in = o.more(o.v, o.in)
		}
	}
}

// 17.1: a struct's name, and others.
func TestNames(t *testing.T) {
	d := read(t, baseText)
	for _, o := range slices.Concat(fine(), wrong()) {
		for name, kind := range map[string]int{"P": 1, "O": 1, "R": 1, "K": 1, "U": 2, "V": 2, "E": 3, "S": 4, "Z": 0, "": 0, "p": 0, "P ": 0, "int": 0} {
			if kind != api.DStruct {
				isStruct(t, "", api.ErrType, d, name, o.v)
			} else {
				s, e := Inside(d, named(name), o.v)
				isStruct(t, s, e, d, name, o.v)
			}
			isStruct(t, "", api.ErrType, nil, name, o.v)
		}
	}
	// An empty name may be one of declarations that no text tells.
	d = of(t, decl(api.DStruct, "", field(4, "", tInt)))
	isStruct(t, "\x08\x01", api.OK, d, "", vStruct(tags(4), vInt(-1)))
}

// names tells whether a type is of something that has a name.
func names(x api.Type) bool {
	return x.Kind == api.TNamed || slices.ContainsFunc(x.Of, names)
}

// 17.1: a nil schema, and one without declarations: types that name nothing are as of any other one.
func TestNil(t *testing.T) {
	for _, d := range []*desc.Desc{nil, {}, read(t, "")} {
		for _, o := range slices.Concat(fine(), wrong()) {
			switch {
			case !names(o.x):
				is(t, o.in, o.err, d, o.x, o.v)
			case o.err == api.OK:
				is(t, "", api.ErrType, d, o.x, o.v)
			}
			isStruct(t, "", api.ErrType, d, "P", o.v)
		}
	}
}

// 17.1: what counts for nothing of a type: a name, and what it is of, as far as it has them not.
func TestBeside(t *testing.T) {
	d := read(t, baseText)
	for _, o := range fine() {
		for _, name := range []string{"P", "E", "Z"} {
			x := o.x
			if x.Kind == api.TNamed {
				x.Of = []api.Type{tInt, tText}
			} else {
				x.Name = name
			}
			if x.Kind < api.TNamed {
				x.Of = []api.Type{named(name)}
			}
			is(t, o.in, api.OK, d, x, o.v)
			is(t, o.content(), api.OK, d, list(x), vList(o.v))
		}
	}
}

// R1: types that have themselves within them, and values that have: each has an answer.
func TestEndless(t *testing.T) {
	of := make([]api.Type, 2)
	of[0], of[1] = made(api.TOpt, of[:1]...), made(api.TList, of[1:]...)
	for _, v := range []api.Value{vInt(1), vList(), vStruct(nil)} {
		if s, e := Inside(nil, of[0], v); s != "" || e != api.ErrType {
			t.Fatal(s, e)
		}
		if s, e := Inside(nil, list(of[0]), vList(v)); s != "" || e != api.ErrType {
			t.Fatal(s, e)
		}
	}
	v, want := vList(), ""
	for range 8 {
		if s, e := Inside(nil, of[1], v); s != want || e != api.OK {
			t.Fatal(s, e)
		}
		v, want = vList(v), spanned(want)
	}
	if s, e := Inside(nil, of[1], v); s != "" || e != api.ErrDeep {
		t.Fatal(s, e)
	}
	items := make([]api.Value, 1)
	items[0] = vList(items...)
	for _, x := range []api.Type{of[1], tInt, list(tInt), {}} {
		if s, e := Inside(nil, x, items[0]); s != "" || e != api.ErrForm {
			t.Fatal(s, e)
		}
	}
}

// R1: values of many items, and of long texts.
func TestWide(t *testing.T) {
	d := read(t, baseText)
	const n = 200000
	l, m := vList(), vMap()
	var inList, inMap strings.Builder
	for i := range n {
		u := spanned("\x04" + turned(int64(i)))
		p := spanned("\x02\x03\x13" + u)
		l.Items = append(l.Items, vStruct(tags(1, 9), vInt(-2), vUnion(2, vInt(int64(i)))))
		m.Items = append(m.Items, vInt(int64(i)), l.Items[i])
		inList.WriteString(p)
		inMap.WriteString(turned(int64(i)) + p)
	}
	if s, e := Inside(d, list(named("P")), l); s != inList.String() || e != api.OK {
		t.Fatal(len(s), e)
	}
	if s, e := Inside(d, table(tInt, named("P")), m); s != inMap.String() || e != api.OK {
		t.Fatal(len(s), e)
	}
	text := strings.Repeat("\u20ac", 1<<22)
	if s, e := Inside(d, nestedType(api.TList, tText, 7), nested(vText(text), 7)); !strings.HasSuffix(s, spanned(text)) || e != api.OK {
		t.Fatal(len(s), e)
	}
	v := vStruct(tags(1, 3), vInt(1), vText(text))
	isLong := func(s string, e api.Errno) bool { return s == "" && e == api.ErrLong }
	if s, e := Encode(d, "P", v); !isLong(s, e) {
		t.Fatal(len(s), e)
	}
	if s, e := Encode(d, "R", vStruct(tags(2), vList(slices.Repeat([]api.Value{vStruct(nil)}, n)...))); !isLong(s, e) {
		t.Fatal(len(s), e)
	}
}

// apart tells whether two texts share no memory.
func apart(a, b string) bool {
	p, q := uintptr(unsafe.Pointer(unsafe.StringData(a))), uintptr(unsafe.Pointer(unsafe.StringData(b)))
	return len(a) == 0 || len(b) == 0 || p+uintptr(len(a)) <= q || q+uintptr(len(b)) <= p
}

// R4: what is told is own memory: no piece of a text that was handed in, and none of what was told ahead.
func TestOwnMemory(t *testing.T) {
	d := read(t, "struct P { 1 a: text?; 2 b: bytes?; } union U { 1 a: text; }")
	for n := range 200 {
		b := []byte(strings.Repeat("a", n+1))
		s := unsafe.String(&b[0], len(b))
		for _, o := range []one{{x: tText, v: vText(s)}, {x: tBytes, v: vBytes(s)}, {x: opt(tText), v: vText(s)}, {x: list(tText), v: vList(vText(s))},
			{x: named("P"), v: vStruct(tags(1), vText(s))}, {x: named("P"), v: vStruct(tags(2), vBytes(s))}, {x: named("U"), v: vUnion(1, vText(s))}} {
			first, e := Inside(d, o.x, o.v)
			again, e2 := Inside(d, o.x, o.v)
			bytes, _ := Encode(d, o.x.Name, o.v)
			if e != api.OK || e2 != api.OK || !apart(first, s) || !apart(again, s) || !apart(again, first) || !apart(bytes, s) || !apart(bytes, first) {
				t.Fatal(o, n)
			}
			kept := strings.Clone(first)
			b[n] = 'b'
			if first != kept {
				t.Fatal(o, n)
			}
			b[n] = 'a'
		}
	}
}

// R4: nothing of what was handed in is kept: what is asked again, with something else in the same lists, is answered by what is there now.
func TestNotKept(t *testing.T) {
	d := read(t, baseText)
	x, v := table(tInt, named("P")), vMap(vInt(1), vStruct(tags(1), vInt(4)), vInt(2), vStruct(tags(1), vInt(4)))
	is(t, "\x02\x02\x02\x08\x04\x02\x02\x08", api.OK, d, x, v)
	v.Items[1].Items[0].Num = -1
	is(t, "\x02\x02\x02\x01\x04\x02\x02\x08", api.OK, d, x, v)
	v.Items[3].Tags[0] = 2
	is(t, "", api.ErrTag, d, x, v)
	x.Of[1] = named("R")
	v.Items[1].Items[0], v.Items[3].Items[0] = vStruct(nil), vList()
	is(t, "\x02\x02\x03\x00\x04\x02\x05\x00", api.OK, d, x, v)
	// A schema of its own rows each.
	other := read(t, "struct P { 1 a: uint; }")
	isStruct(t, "\x02\x08", api.OK, d, "P", vStruct(tags(1), vInt(4)))
	isStruct(t, "\x02\x04", api.OK, other, "P", vStruct(tags(1), vUint(4)))
	isStruct(t, "", api.ErrKind, other, "P", vStruct(tags(1), vInt(4)))
	isStruct(t, "\x02\x08", api.OK, d, "P", vStruct(tags(1), vInt(4)))
}

// answer is what is told.
type answer struct {
	s string
	e api.Errno
}

// questions are all of them, asked of a schema.
func questions(d *desc.Desc) []func() answer {
	var l []func() answer
	for _, o := range slices.Concat(fine(), wrong()) {
		inside := func() answer { s, e := Inside(d, o.x, o.v); return answer{s, e} }
		bytes := func() answer { s, e := Encode(d, o.x.Name, o.v); return answer{s, e} }
		l = append(l, inside, bytes)
	}
	return l
}

// answers are what is answered, by a schema that was asked for nothing ahead.
func answers(t *testing.T) []answer {
	var l []answer
	for i := range questions(nil) {
		l = append(l, questions(read(t, baseText))[i]())
	}
	return l
}

// R5: the same is answered each time, whichever is asked first.
func TestAnyOrder(t *testing.T) {
	want := answers(t)
	r := rand.New(rand.NewSource(17))
	for range 60 {
		all := questions(read(t, baseText))
		for _, i := range append(r.Perm(len(all)), r.Perm(len(all))...) {
			if got := all[i](); got != want[i] {
				t.Fatalf("%d: %v, not %v", i, got, want[i])
			}
		}
	}
}

// R5: whoever asks at the same time is answered the same.
func TestAtOnce(t *testing.T) {
	want := answers(t)
	for range 20 {
		all := questions(read(t, baseText))
		got := make([][]answer, 8)
		var wait sync.WaitGroup
		for i := range got {
			wait.Go(func() {
				for j := range all {
					got[i] = append(got[i], all[(i*7+j)%len(all)]())
				}
			})
		}
		wait.Wait()
		for i, l := range got {
			for j, a := range l {
				if a != want[(i*7+j)%len(all)] {
					t.Fatal(i, j, a)
				}
			}
		}
	}
}

// unlike asks whether values of a type each have bytes of their own, if they are unlike; it tells how many these are.
func unlike(t *testing.T, d *desc.Desc, x api.Type, l []api.Value) int {
	t.Helper()
	of := map[string]api.Value{}
	for _, v := range l {
		s, e := Inside(d, x, v)
		if e != api.OK {
			t.Fatalf("%v of %v: %v", v, x, e)
		}
		if other, ok := of[s]; ok && !value.Same(other, v) {
			t.Fatalf("%v and %v of %v: both %v", v, other, x, []byte(s))
		}
		of[s] = v
	}
	return len(of)
}

// 17.2: structs that differ in one thing.
func TestOneThing(t *testing.T) {
	d := read(t, "struct P { 1 i: int; 2 u: uint?; 3 b: bool?; 4 t: text?; 5 y: bytes?; 6 e: E?; 7 l: list<int>?; 8 m: map<text,int>?; 9 p: P?; 10 n: U?; 11 k: list<text>?; 12 a: int?; 64 z: int?; }"+
		" union U { 1 a: int; 2 b: int; 3 t: text; } enum E { 0 A; 1 B; 128 C; }")
	all := vStruct(tags(1, 2, 3, 4, 5, 6, 7, 8, 9, 10, 11, 12), vInt(1), vUint(1), vBool(1), vText("ab"), vBytes("ab"), vEnum(1), vList(vInt(1), vInt(2), vInt(3)),
		vMap(vText("a"), vInt(1), vText("b"), vInt(2)), vStruct(tags(1, 2), vInt(1), vUint(1)), vUnion(1, vInt(1)), vList(vText("a"), vText("bc")), vInt(5))
	l := []api.Value{all}
	// put is all with another item of a tag.
	put := func(tag int, items ...api.Value) {
		for _, x := range items {
			v := vStruct(all.Tags, slices.Clone(all.Items)...)
			v.Items[tag-1] = x
			l = append(l, v)
		}
	}
	put(1, vInt(0), vInt(-1), vInt(2), vInt(-2), vInt(64), vInt(math.MaxInt64), vInt(math.MinInt64))
	put(2, vUint(0), vUint(2), vUint(128), vUint(math.MaxUint64), vUint(1<<63))
	put(3, vBool(0))
	put(4, vText(""), vText("a"), vText("ac"), vText("bb"), vText("abc"), vText("\u20ac"), vText("ab\x00"))
	put(5, vBytes(""), vBytes("a"), vBytes("ac"), vBytes("bb"), vBytes("abc"), vBytes("\xff"), vBytes("ab\x00"))
	put(6, vEnum(0), vEnum(128))
	put(7, vList(), vList(vInt(1), vInt(2)), vList(vInt(2), vInt(1), vInt(3)), vList(vInt(1), vInt(3), vInt(2)), vList(vInt(1), vInt(2), vInt(4)), vList(vInt(1), vInt(2), vInt(3), vInt(0)))
	put(8, vMap(), vMap(vText("a"), vInt(1)), vMap(vText("b"), vInt(2)), vMap(vText("a"), vInt(2), vText("b"), vInt(1)), vMap(vText("a"), vInt(1), vText("c"), vInt(2)),
		vMap(vText("a"), vInt(1), vText("b"), vInt(3)), vMap(vText("a"), vInt(1), vText("b"), vInt(2), vText("c"), vInt(0)), vMap(vText(""), vInt(1), vText("b"), vInt(2)))
	put(9, vStruct(tags(1), vInt(1)), vStruct(tags(1, 2), vInt(2), vUint(1)), vStruct(tags(1, 12), vInt(1), vInt(1)), vStruct(tags(1, 9), vInt(1), vStruct(tags(1), vInt(1))))
	put(10, vUnion(1, vInt(2)), vUnion(2, vInt(1)), vUnion(3, vText("")), vUnion(3, vText("\x02")))
	put(11, vList(vText("bc"), vText("a")), vList(vText("ab"), vText("c")), vList(vText("abc")), vList(vText("a"), vText("bc"), vText("")), vList(vText("a\x02bc")), vList())
	put(12, vInt(4))
	// A row less, and a row of another tag.
	for i := 1; i < len(all.Tags); i++ {
		l = append(l, vStruct(slices.Delete(slices.Clone(all.Tags), i, i+1), slices.Delete(slices.Clone(all.Items), i, i+1)...))
	}
	more := vStruct(slices.Clone(all.Tags), all.Items...)
	more.Tags[11] = 64
	l = append(l, more, vStruct(append(slices.Clone(all.Tags), 64), append(slices.Clone(all.Items), vInt(5))...))
	if n := unlike(t, d, named("P"), l); n != len(l) {
		t.Fatal(n, len(l))
	}
	for _, v := range l {
		s, _ := Inside(d, named("P"), v)
		isStruct(t, s, api.OK, d, "P", v)
	}
	n := len(l)
	for i := range n {
		l = append(l, vStruct(tags(1, 9), vInt(1), l[i]))
	}
	if m := unlike(t, d, named("P"), l); m != 2*n {
		t.Fatal(m, n)
	}
}

// choices are all structs whose rows have one of their items each, or are not there.
func choices(rows map[int][]api.Value) []api.Value {
	l := []api.Value{vStruct(nil)}
	for tag := 1; tag <= 255; tag++ {
		for _, v := range l {
			for _, x := range rows[tag] {
				l = append(l, vStruct(append(slices.Clone(v.Tags), tag), append(slices.Clone(v.Items), x)...))
			}
		}
	}
	return l
}

// 17.2: all structs of some few numbers, texts, items and entries.
func TestChoices(t *testing.T) {
	d := read(t, "struct P { 1 a: int?; 2 b: text?; 3 c: list<text>?; 64 d: U?; 65 e: map<bool,uint>?; 200 p: Q?; } struct Q { 1 a: int?; 2 b: list<list<int>>?; } union U { 1 a: int; 2 b: text; 3 q: Q; }")
	i, s := vInt, vText
	q := choices(map[int][]api.Value{1: {i(0), i(1)}, 2: {vList(), vList(vList()), vList(vList(i(0))), vList(vList(), vList()), vList(vList(i(0), i(0))), vList(vList(i(0)), vList(i(0)))}})
	l := choices(map[int][]api.Value{
		1:   {i(0), i(-1), i(1), i(150)},
		2:   {s(""), s("a"), s("\x02"), s("\x00\x00")},
		3:   {vList(), vList(s("")), vList(s("a")), vList(s(""), s("")), vList(s("a"), s("")), vList(s(""), s("a")), vList(s("\x00"))},
		64:  {vUnion(1, i(0)), vUnion(1, i(1)), vUnion(2, s("")), vUnion(2, s("\x00")), vUnion(3, q[0]), vUnion(3, q[2])},
		65:  {vMap(), vMap(vBool(0), vUint(0)), vMap(vBool(0), vUint(1)), vMap(vBool(1), vUint(0)), vMap(vBool(0), vUint(0), vBool(1), vUint(0)), vMap(vBool(0), vUint(1), vBool(1), vUint(0))},
		200: q[:5],
	})
	if n := unlike(t, d, named("P"), l); n != 5*5*8*7*7*6 {
		t.Fatal(n, len(l))
	}
	if n := unlike(t, d, named("Q"), q); n != 3*7 {
		t.Fatal(n)
	}
}

// sort is a type, whether its values are written as numbers, and how one of its values is made by chance, with its inside.
type sort struct {
	x    api.Type
	num  bool
	draw func() (api.Value, string)
}

// chance makes types and values by chance, and the declarations that they need.
type chance struct {
	*rand.Rand
	l []api.Decl
}

// content is a value of a sort, with its content.
func (o sort) content() (api.Value, string) {
	v, in := o.draw()
	if o.num {
		return v, in
	}
	return v, spanned(in)
}

// key is a sort of what may be a map's keys.
func (r *chance) key() sort {
	switch r.Intn(5) {
	case 0:
		return sort{tBool, true, func() (api.Value, string) { n := r.Intn(2); return vBool(int64(n)), string([]byte{byte(n)}) }}
	case 1:
		return sort{tInt, true, func() (api.Value, string) { n := int64(r.Uint64()) >> r.Intn(64); return vInt(n), turned(n) }}
	case 2:
		return sort{tUint, true, func() (api.Value, string) { n := r.Uint64() >> r.Intn(64); return vUint(n), number(n) }}
	case 3:
		return r.enum()
	}
	return sort{tText, false, func() (api.Value, string) {
		s := strings.Repeat([]string{"a", "b", "\u20ac", "\x01"}[r.Intn(4)], r.Intn(70))
		return vText(s), s
	}}
}

// enum is a sort of an enum of its own.
func (r *chance) enum() sort {
	name := fmt.Sprint("D", len(r.l))
	all := r.Perm(300)[:1+r.Intn(9)]
	var rows []api.Field
	for _, n := range all {
		rows = append(rows, field(n, fmt.Sprint("v", n), api.Type{}))
	}
	r.l = append(r.l, decl(api.DEnum, name, rows...))
	return sort{named(name), true, func() (api.Value, string) {
		n := all[r.Intn(len(all))]
		return vEnum(int64(n)), number(uint64(n))
	}}
}

// some is a sort of any type, within which so many others may be.
func (r *chance) some(deep int) sort {
	n := 7
	if deep > 0 {
		n = 12
	}
	switch r.Intn(n) {
	case 5:
		return sort{tBytes, false, func() (api.Value, string) {
			b := make([]byte, r.Intn(140))
			r.Read(b)
			return vBytes(string(b)), string(b)
		}}
	case 7:
		return r.list(deep)
	case 8:
		return r.table(deep)
	case 9, 10:
		return r.record(deep)
	case 11:
		return r.union(deep)
	}
	return r.key()
}

func (r *chance) list(deep int) sort {
	of := r.some(deep - 1)
	return sort{list(of.x), false, func() (api.Value, string) {
		v, in := vList(), ""
		for range r.Intn(5) {
			x, s := of.content()
			v.Items, in = append(v.Items, x), in+s
		}
		return v, in
	}}
}

func (r *chance) table(deep int) sort {
	keys, of := r.key(), r.some(deep-1)
	return sort{table(keys.x, of.x), false, func() (api.Value, string) {
		v, in := vMap(), ""
		for range r.Intn(5) {
			k, ahead := keys.content()
			x, s := of.content()
			if n := len(v.Items); n == 0 || value.Cmp(v.Items[n-2], k) < 0 {
				v.Items, in = append(v.Items, k, x), in+ahead+s
			}
		}
		return v, in
	}}
}

// rows are the tags of some rows, rising, and their sorts.
func (r *chance) rows(deep, least int) ([]int, []sort) {
	all := r.Perm(255)[:least+r.Intn(5)]
	var l []sort
	for i := range all {
		all[i]++
		l = append(l, r.some(deep-1))
	}
	slices.Sort(all)
	return all, l
}

// field is an item's field, with the item.
func (o sort) field(tag int) (api.Value, string) {
	v, s := o.content()
	if o.num {
		return v, number(uint64(2*tag)) + s
	}
	return v, number(uint64(2*tag+1)) + s
}

func (r *chance) record(deep int) sort {
	all, l := r.rows(deep, 0)
	may := r.Perm(len(all))[:r.Intn(len(all)+1)]
	var rows []api.Field
	for i, tag := range all {
		x := l[i].x
		if slices.Contains(may, i) {
			x = opt(x)
		}
		rows = append(rows, field(tag, fmt.Sprint("f", tag), x))
	}
	r.Shuffle(len(rows), func(i, j int) { rows[i], rows[j] = rows[j], rows[i] })
	name := fmt.Sprint("D", len(r.l))
	r.l = append(r.l, decl(api.DStruct, name, rows...))
	return sort{named(name), false, func() (api.Value, string) {
		v, in := vStruct(nil), ""
		for i, tag := range all {
			if slices.Contains(may, i) && r.Intn(2) == 0 {
				continue
			}
			x, s := l[i].field(tag)
			v.Tags, v.Items, in = append(v.Tags, tag), append(v.Items, x), in+s
		}
		return v, in
	}}
}

func (r *chance) union(deep int) sort {
	all, l := r.rows(deep, 1)
	var rows []api.Field
	for i, tag := range all {
		rows = append(rows, field(tag, fmt.Sprint("f", tag), l[i].x))
	}
	name := fmt.Sprint("D", len(r.l))
	r.l = append(r.l, decl(api.DUnion, name, rows...))
	return sort{named(name), false, func() (api.Value, string) {
		i := r.Intn(len(all))
		x, s := l[i].field(all[i])
		return vUnion(all[i], x), s
	}}
}

// spoilt is a value with one thing another one, at the top or within; it may be of the same type yet.
func (r *chance) spoilt(v api.Value) api.Value {
	v = another(v, false)
	x := &v
	for len(x.Items) > 0 && r.Intn(4) > 0 {
		x = &x.Items[r.Intn(len(x.Items))]
	}
	n := len(x.Items)
	switch r.Intn(7) {
	case 0, 1:
		x.Num ^= 1
	case 2:
		x.Text += "a"
	case 3:
		x.Kind = 1 + r.Intn(10)
	case 4:
		if n > 0 {
			x.Items = x.Items[:n-1]
			x.Tags = x.Tags[:max(len(x.Tags)-1, 0)]
		}
	case 5:
		if n > 1 {
			x.Items[0], x.Items[n-1] = x.Items[n-1], x.Items[0]
		}
	case 6:
		if len(x.Tags) > 0 {
			x.Tags[len(x.Tags)-1]++
		}
	}
	return v
}

// heldChance asks of a type and of values of it, all by chance; it counts what is told.
func heldChance(t *testing.T, seed int64, n map[string]int) {
	t.Helper()
	r := &chance{Rand: rand.New(rand.NewSource(seed))}
	o := r.some(6)
	d := of(t, r.l...)
	var all []api.Value
	for range 10 {
		v, in := o.draw()
		is(t, in, api.OK, d, o.x, v)
		all = append(all, v)
		if d.Kind(o.x.Name) == api.DStruct && len(in) <= 1024 {
			isStruct(t, in, api.OK, d, o.x.Name, v)
			n["struct"]++
		}
		for range 4 {
			v = r.spoilt(v)
			_, e := held(t, d, o.x, v)
			n[e.Error()]++
			if e == api.OK {
				all = append(all, v)
			}
		}
	}
	n["unlike"] += unlike(t, d, o.x, all)
}

// 17.1, 17.2: schemas, types and values by chance.
func TestByChance(t *testing.T) {
	n := map[string]int{}
	for seed := range int64(1500) {
		heldChance(t, seed, n)
	}
	for _, word := range []string{"ok", "form", "kind", "tag", "none", "struct", "unlike"} {
		if n[word] < 150 {
			t.Fatal(word, n)
		}
	}
}

// 17.2: values of a struct have the same bytes by a schema that takes the place of theirs, and has all its rows.
func TestPlace(t *testing.T) {
	old := read(t, baseText)
	now := read(t, "service S { 1 get(P): O; } enum E { 9999 X; 128 W; 5 Y; 1 N; 0 Z; } union V { 3 z: V; 2 y: E; 1 x: R; } union U { 100 b: bytes; 7 n: E; 5 z: P; 2 p: int; 1 m: text; } struct O { 1 n: int?; }"+
		" struct R { 5 n: int?; 4 a: V?; 3 b: map<int,R>?; 2 c: list<R>?; 1 d: R?; } struct P { 9 a: U?; 4 b: list<E>?; 3 c: text?; 2 n: bool?; 1 d: int; }"+
		" struct K { 1 a: bool; 2 b: int; 3 c: uint; 4 d: text; 5 e: bytes; 10 j: map<text,int>; 63 f: E; 64 g: P; 65 h: U; 70 i: list<int>; 255 k: E?; }")
	if e, name := compat.Check(old, now); e != api.OK {
		t.Fatal(e, name)
	}
	for _, o := range fine() {
		if fit.Fits(now, o.x, o.v) != api.OK {
			t.Fatal(o)
		}
		is(t, o.in, api.OK, now, o.x, o.v)
	}
}

func FuzzEncode(f *testing.F) {
	for seed := range int64(20) {
		f.Add(seed)
	}
	f.Fuzz(func(t *testing.T, seed int64) { heldChance(t, seed, map[string]int{}) })
}
