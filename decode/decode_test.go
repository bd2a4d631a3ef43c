package decode

import (
	"fmt"
	"math"
	"math/rand"
	"reflect"
	"slices"
	"strings"
	"sync"
	"testing"
	"unsafe"

	"concourse/api"
	"concourse/compat"
	"concourse/desc"
	"concourse/encode"
	"concourse/value"
)

// The types that a word alone tells, in short.
var (
	tBool  = api.Type{Kind: api.TBool}
	tInt   = api.Type{Kind: api.TInt}
	tUint  = api.Type{Kind: api.TUint}
	tText  = api.Type{Kind: api.TText}
	tBytes = api.Type{Kind: api.TBytes}
)

// made is a type of a kind, of these types.
func made(kind int, of ...api.Type) api.Type { return api.Type{Kind: kind, Of: of} }
func named(s string) api.Type                { return api.Type{Kind: api.TNamed, Name: s} }
func list(x api.Type) api.Type               { return made(api.TList, x) }
func table(k, v api.Type) api.Type           { return made(api.TMap, k, v) }
func opt(x api.Type) api.Type                { return made(api.TOpt, x) }

func field(n int, s string, x api.Type) api.Field { return api.Field{Tag: n, Name: s, Type: x} }

func decl(kind int, name string, l ...api.Field) api.Decl {
	return api.Decl{Kind: kind, Name: name, Fields: l}
}

func vBool(n int64) api.Value        { return api.Value{Kind: api.VBool, Num: n} }
func vInt(n int64) api.Value         { return api.Value{Kind: api.VInt, Num: n} }
func vUint(n uint64) api.Value       { return api.Value{Kind: api.VUint, Num: int64(n)} }
func vEnum(n int64) api.Value        { return api.Value{Kind: api.VEnum, Num: n} }
func vText(s string) api.Value       { return api.Value{Kind: api.VText, Text: s} }
func vBytes(s string) api.Value      { return api.Value{Kind: api.VBytes, Text: s} }
func vList(l ...api.Value) api.Value { return api.Value{Kind: api.VList, Items: l} }
func vMap(l ...api.Value) api.Value  { return api.Value{Kind: api.VMap, Items: l} }
func vUnion(n int, v api.Value) api.Value {
	return api.Value{Kind: api.VUnion, Tags: []int{n}, Items: []api.Value{v}}
}

func vStruct(tags []int, l ...api.Value) api.Value {
	return api.Value{Kind: api.VStruct, Tags: tags, Items: l}
}

func tags(l ...int) []int { return l }

// read is the schema of a text that is one.
func read(t *testing.T, s string) *desc.Desc {
	t.Helper()
	d, f := desc.Read(s)
	if f != (api.Fault{}) {
		t.Fatalf("%q: %v", s, f)
	}
	return d
}

// of is the schema of declarations that may be.
func of(t *testing.T, l ...api.Decl) *desc.Desc {
	t.Helper()
	d, f := desc.Of(l)
	if f != (api.Fault{}) {
		t.Fatalf("%v: %v", l, f)
	}
	return d
}

// told asks whether just this is told of bytes, if so much may be made.
func told(t *testing.T, d *desc.Desc, name, b string, most int, want api.Value, cost int, err api.Errno) {
	t.Helper()
	if v, n, e := Decode(d, name, b, most); !same(v, n, e, want, cost, err) {
		t.Fatalf("Decode of %q and %v, %d: %s, %d, %v, not %s, %d, %v", name, []byte(b), most, value.Text(v), n, e, value.Text(want), cost, err)
	}
}

// is asks whether bytes are this struct, and so much is made; the same is asked of the model, and of less that may be made.
func is(t *testing.T, d *desc.Desc, name, b string, want api.Value, cost int) {
	t.Helper()
	told(t, d, name, b, math.MaxInt, want, cost, api.OK)
	told(t, d, name, b, cost, want, cost, api.OK)
	told(t, d, name, b, cost-1, api.Value{}, 0, api.ErrFull)
	held(t, d, d.Decls(), name, b)
}

// isNot asks whether bytes are wrong, and so much is made ahead of what is.
func isNot(t *testing.T, d *desc.Desc, name, b string, err api.Errno, cost int) {
	t.Helper()
	told(t, d, name, b, math.MaxInt, api.Value{}, 0, err)
	told(t, d, name, b, cost, api.Value{}, 0, err)
	told(t, d, name, b, cost-1, api.Value{}, 0, api.ErrFull)
	held(t, d, d.Decls(), name, b)
}

// The chapter's example.
func TestExample(t *testing.T) {
	d := read(t, "struct P { 1 a: int; }")
	is(t, d, "P", "\x02\x01", vStruct(tags(1), vInt(-1)), 16)
	is(t, d, "P", "\x02\x01\x04\x07", vStruct(tags(1), vInt(-1)), 16)
	is(t, d, "P", "\x02\x01\x05\x02ab", vStruct(tags(1), vInt(-1)), 16)
}

const baseText = "struct P { 1 a: int; 3 b: text?; 4 c: list<E>?; 9 d: U?; } struct O { } struct R { 1 r: R?; 2 l: list<R>?; 3 m: map<int,R>?; 4 v: V?; }" +
	" union U { 2 n: int; 5 p: P; 7 e: E; 100 b: bytes; } union V { 1 r: R; 2 e: E; 3 v: V; } enum E { 0 A; 5 B; 128 C; 9999 D; } service S { 1 get(P): O; }" +
	" struct K { 10 j: map<text,int>; 64 g: P; 5 e: bytes; 3 c: uint; 255 k: E?; 1 a: bool; 63 f: E; 2 b: int; 4 d: text; 70 i: list<int>; 65 h: U; }"

// part is a value, its content, and what is made of it; or a content that is wrong, what is made ahead of what is, and the error.
type part struct {
	v    api.Value
	b    string
	cost int
	err  api.Errno
}

// whole is a value of items, one behind the other; the last one may be wrong.
func whole(v api.Value, l ...part) part {
	p, in := part{v: v, cost: 8}, ""
	for _, x := range l {
		p.v.Items, in = append(p.v.Items, x.v), in+x.b
		p.cost, p.err = p.cost+x.cost, x.err
	}
	p.b = spanned(in)
	return p
}

// behind is the same with bytes ahead of its content that are no value.
func (p part) behind(b string) part {
	p.b = b + p.b
	return p
}

// one is a type of baseText's schema, or of one that follows, whether its values are written as numbers, a value of it that is right, and one that may be.
type one struct {
	x        api.Type
	num      bool
	good, it part
}

// numbers are values that are written as numbers.
func numbers() []one {
	num := func(x api.Type, v api.Value, s string) one {
		p := part{v, s, 8, api.OK}
		return one{x, true, p, p}
	}
	e := named("E")
	nine := strings.Repeat("\xff", 9)
	return []one{
		num(tBool, vBool(0), "\x00"),
		num(tBool, vBool(1), "\x01"),
		num(tInt, vInt(0), "\x00"),
		num(tInt, vInt(-1), "\x01"),
		num(tInt, vInt(1), "\x02"),
		num(tInt, vInt(-2), "\x03"),
		num(tInt, vInt(63), "\x7e"),
		num(tInt, vInt(-64), "\x7f"),
		num(tInt, vInt(64), "\x80\x01"),
		num(tInt, vInt(-65), "\x81\x01"),
		num(tInt, vInt(150), "\xac\x02"),
		num(tInt, vInt(math.MaxInt64), "\xfe"+nine[:8]+"\x01"),
		num(tInt, vInt(math.MinInt64), nine+"\x01"),
		num(tInt, vInt(math.MinInt64+1), "\xfd"+nine[:8]+"\x01"),
		num(tUint, vUint(0), "\x00"),
		num(tUint, vUint(1), "\x01"),
		num(tUint, vUint(127), "\x7f"),
		num(tUint, vUint(128), "\x80\x01"),
		num(tUint, vUint(300), "\xac\x02"),
		num(tUint, vUint(1<<63-1), nine[:8]+"\x7f"),
		num(tUint, vUint(1<<63), strings.Repeat("\x80", 9)+"\x01"),
		num(tUint, vUint(math.MaxUint64), nine+"\x01"),
		num(e, vEnum(0), "\x00"),
		num(e, vEnum(5), "\x05"),
		num(e, vEnum(128), "\x80\x01"),
		num(e, vEnum(9999), "\x8f\x4e"),
	}
}

// texts are texts and bytes.
func texts() []one {
	text := func(x api.Type, v api.Value, length string, cost int) one {
		p := part{v, length + v.Text, cost, api.OK}
		return one{x, false, p, p}
	}
	all := ""
	for c := range 256 {
		all += string([]byte{byte(c)})
	}
	return []one{
		text(tText, vText(""), "\x00", 8),
		text(tText, vText("a"), "\x01", 9),
		text(tText, vText("a\u20ac\x00!\U0010ffff"), "\x0a", 18),
		text(tText, vText("\ufffd"), "\x03", 11),
		text(tText, vText(strings.Repeat("b", 127)), "\x7f", 135),
		text(tText, vText(strings.Repeat("\u00e4", 64)), "\x80\x01", 136),
		text(tBytes, vBytes(""), "\x00", 8),
		text(tBytes, vBytes("\x00"), "\x01", 9),
		text(tBytes, vBytes("\xff\x80a"), "\x03", 11),
		text(tBytes, vBytes("\xc3"), "\x01", 9),
		text(tBytes, vBytes(all), "\x80\x02", 264),
	}
}

// trees are lists, maps, structs and unions.
func trees() []one {
	tree := func(x api.Type, v api.Value, in string, cost int) one {
		p := part{v, spanned(in), cost, api.OK}
		return one{x, false, p, p}
	}
	e, p, o, r, u, v, k := named("E"), named("P"), named("O"), named("R"), named("U"), named("V"), named("K")
	a := vStruct(tags(1), vInt(4)) // 2, 8; it costs 16
	none := vStruct(nil)
	return []one{
		tree(list(tInt), vList(), "", 8),
		tree(list(tInt), vList(vInt(1), vInt(-1), vInt(64)), "\x02\x01\x80\x01", 32),
		tree(list(tBool), vList(vBool(1), vBool(0), vBool(1)), "\x01\x00\x01", 32),
		tree(list(tText), vList(vText("ab"), vText(""), vText("c")), "\x02ab\x00\x01c", 35),
		tree(list(list(tText)), vList(vList(), vList(vText("a")), vList(vText(""), vText(""))), "\x00\x02\x01a\x02\x00\x00", 57),
		tree(list(e), vList(vEnum(5), vEnum(9999)), "\x05\x8f\x4e", 24),
		tree(list(o), vList(none, none), "\x00\x00", 24),
		tree(list(p), vList(a, a), "\x02\x02\x08\x02\x02\x08", 40),
		tree(table(tInt, tText), vMap(), "", 8),
		tree(table(tInt, tText), vMap(vInt(-1), vText("a"), vInt(2), vText("")), "\x01\x01a\x04\x00", 41),
		tree(table(tText, tInt), vMap(vText(""), vInt(1), vText("b"), vInt(-1)), "\x00\x02\x01b\x01", 41),
		tree(table(tUint, tBool), vMap(vUint(5), vBool(1), vUint(1<<63), vBool(0)), "\x05\x01"+strings.Repeat("\x80", 9)+"\x01\x00", 40),
		tree(table(tBool, table(tUint, tBytes)), vMap(vBool(0), vMap(), vBool(1), vMap(vUint(1), vBytes("\xff"))), "\x00\x00\x01\x03\x01\x01\xff", 57),
		tree(table(e, e), vMap(vEnum(0), vEnum(5), vEnum(9999), vEnum(0)), "\x00\x05\x8f\x4e\x00", 40),
		tree(table(tText, p), vMap(vText("k"), a), "\x01k\x02\x02\x08", 33),
		tree(p, a, "\x02\x08", 16),
		tree(p, vStruct(tags(1, 3), vInt(-1), vText("")), "\x02\x01\x07\x00", 24),
		tree(p, vStruct(tags(1, 4), vInt(4), vList(vEnum(5), vEnum(0), vEnum(5))), "\x02\x08\x09\x03\x05\x00\x05", 48),
		tree(p, vStruct(tags(1, 3, 4, 9), vInt(4), vText("a"), vList(), vUnion(5, a)), "\x02\x08\x07\x01a\x09\x00\x13\x04\x0b\x02\x02\x08", 57),
		tree(o, none, "", 8),
		tree(u, vUnion(2, vInt(-1)), "\x04\x01", 16),
		tree(u, vUnion(5, a), "\x0b\x02\x02\x08", 24),
		tree(u, vUnion(7, vEnum(9999)), "\x0e\x8f\x4e", 16),
		tree(u, vUnion(100, vBytes("\xff")), "\xc9\x01\x01\xff", 17),
		tree(u, vUnion(100, vBytes("")), "\xc9\x01\x00", 16),
		tree(r, none, "", 8),
		tree(r, vStruct(tags(1), vStruct(tags(1), none)), "\x03\x02\x03\x00", 24),
		tree(r, vStruct(tags(1, 2, 3), none, vList(none, vStruct(tags(2), vList())), vMap(vInt(2), none)), "\x03\x00\x05\x04\x00\x02\x05\x00\x07\x02\x04\x00", 72),
		tree(r, vStruct(tags(4), vUnion(1, vStruct(tags(4), vUnion(2, vEnum(5))))), "\x09\x06\x03\x04\x09\x02\x04\x05", 40),
		tree(v, vUnion(3, vUnion(3, vUnion(2, vEnum(0)))), "\x07\x04\x07\x02\x04\x00", 32),
		tree(k, vStruct(tags(1, 2, 3, 4, 5, 10, 63, 64, 65, 70), vBool(1), vInt(-64), vUint(128), vText("\u00e4"), vBytes("\xff"), vMap(vText("a"), vInt(5)), vEnum(128), a, vUnion(7, vEnum(5)), vList(vInt(1))),
			"\x02\x01\x04\x7f\x06\x80\x01\x09\x02\xc3\xa4\x0b\x01\xff\x15\x03\x01a\x0a\x7e\x80\x01\x81\x01\x02\x02\x08\x83\x01\x02\x0e\x05\x8d\x01\x01\x02", 132),
		tree(k, vStruct(tags(1, 2, 3, 4, 5, 10, 63, 64, 65, 70, 255), vBool(0), vInt(0), vUint(0), vText(""), vBytes(""), vMap(), vEnum(0), a, vUnion(2, vInt(0)), vList(), vEnum(5)),
			"\x02\x00\x04\x00\x06\x00\x09\x00\x0b\x00\x15\x00\x7e\x00\x81\x01\x02\x02\x08\x83\x01\x02\x04\x00\x8d\x01\x00\xfe\x03\x05", 112),
	}
}

// strangers are structs, lists and unions of such, among whose fields are some of tags that are no row's: no part of the value, and never made.
func strangers() []one {
	tree := func(x api.Type, v api.Value, in string, cost int) one {
		p := part{v, spanned(in), cost, api.OK}
		return one{x, false, p, p}
	}
	p, o, r, u := named("P"), named("O"), named("R"), named("U")
	a, none := vStruct(tags(1), vInt(4)), vStruct(nil)
	ten := strings.Repeat("\xff", 9) + "\x01"
	b := vStruct(tags(1, 3, 9), vInt(4), vText("a"), vUnion(2, vInt(0)))
	return []one{
		tree(p, a, "\x02\x08\x04\x00", 16),
		tree(p, a, "\x02\x08\x04"+ten, 16),
		tree(p, a, "\x02\x08\x05\x00", 16),
		tree(p, a, "\x02\x08\x05\x03\xff\x80\x00", 16),
		tree(p, a, "\x02\x08\x05\xc8\x01"+strings.Repeat("z", 200), 16),
		tree(p, a, "\x02\x08\xfe\x03\x07", 16),
		tree(p, a, "\x02\x08\xff\x03\x01a", 16),
		tree(p, a, "\x02\x08\x04\x01\x0b\x01a\x0c\x02\xff\x03\x00", 16),
		tree(p, b, "\x02\x08\x04\x05\x07\x01a\x0b\x02\xff\xff\x0c\x80\x01\x13\x02\x04\x00\x14\x01", 41),
		tree(p, b, "\x02\x08\x05\x00\x07\x01a\x0a\x05\x11\x01a\x13\x02\x04\x00\xc8\x01\x00\xcb\x01\x00", 41),
		tree(o, none, "\x02\x00", 8),
		tree(o, none, "\x03\x02\x80\x80\x04\x00\xff\x03\x01a", 8),
		tree(r, none, "\x0a\x00\x0d\x00", 8),
		tree(r, vStruct(tags(2), vList(none, none, none)), "\x05\x08\x02\x0a\x00\x00\x03\x0d\x01b", 40),
		tree(r, vStruct(tags(3), vMap(vInt(1), none)), "\x07\x04\x02\x02\x0a\x00", 32),
		tree(u, vUnion(5, a), "\x0b\x04\x02\x08\x0c\x00", 24),
		tree(list(p), vList(a, b), "\x04\x02\x08\x04\x00\x0d\x02\x08\x04\x05\x07\x01a\x0b\x00\x13\x02\x04\x00", 65),
	}
}

func fine() []one { return slices.Concat(numbers(), texts(), trees(), strangers()) }

// least is the least value of a type of baseText's schema.
func least(x api.Type) part {
	p := part{b: "\x00", cost: 8}
	switch x.Kind {
	case api.TBool:
		p.v = vBool(0)
	case api.TInt:
		p.v = vInt(0)
	case api.TUint:
		p.v = vUint(0)
	case api.TText:
		p.v = vText("")
	case api.TBytes:
		p.v = vBytes("")
	case api.TList:
		p.v = vList()
	case api.TMap:
		p.v = vMap()
	}
	switch x.Name {
	case "E":
		p.v = vEnum(0)
	case "O", "R":
		p.v = vStruct(nil)
	case "P":
		p = part{v: vStruct(tags(1), vInt(0)), b: "\x02\x02\x00", cost: 16}
	case "U":
		p = part{v: vUnion(2, vInt(0)), b: "\x02\x04\x00", cost: 16}
	case "V":
		p = part{v: vUnion(2, vEnum(0)), b: "\x02\x04\x00", cost: 16}
	}
	return p
}

// bad is a content that is wrong.
func bad(x api.Type, b string, err api.Errno, cost int) one {
	num := slices.Contains([]int{api.TBool, api.TInt, api.TUint}, x.Kind) || x.Name == "E"
	return one{x, num, least(x), part{b: b, cost: cost, err: err}}
}

// badIn is one whose inside is.
func badIn(x api.Type, in string, err api.Errno, cost int) one {
	return bad(x, spanned(in), err, cost)
}

// Numbers that are none, by their errors.
func shortNumbers() []string {
	return []string{"", "\x80", "\xff", "\x80\x80", "\xff\x80", strings.Repeat("\xff", 9), strings.Repeat("\x80", 9)}
}

func wrongNumbers() []string {
	nine, zeros := strings.Repeat("\xff", 9), strings.Repeat("\x80", 9)
	return []string{"\x80\x00", "\x81\x00", "\xff\xff\x00", zeros + "\x00", nine + "\x00", nine + "\x02", zeros + "\x7f", nine + "\x80", zeros + "\x80", nine + "\xff", nine + "\xff\x01"}
}

// badNumbers are contents that are no numbers, or none that may be.
func badNumbers() []one {
	var l []one
	e := named("E")
	for _, x := range []api.Type{tBool, tInt, tUint, e} {
		for _, b := range shortNumbers() {
			l = append(l, bad(x, b, api.ErrShort, 8))
		}
		for _, b := range wrongNumbers() {
			l = append(l, bad(x, b, api.ErrForm, 8))
		}
	}
	for _, n := range []uint64{2, 3, 127, 128, 129, 256, 257, 1 << 32, 1<<32 + 1, 1 << 63, 1<<63 + 1, math.MaxUint64} {
		l = append(l, bad(tBool, number(n), api.ErrForm, 8))
	}
	for _, n := range []uint64{1, 4, 6, 127, 129, 133, 261, 9998, 10000, 10005, 1 << 16, 1<<16 + 5, 1 << 32, 1<<32 + 5, 1 << 63, 1<<63 + 5, math.MaxUint64 - 4, math.MaxUint64} {
		l = append(l, bad(e, number(n), api.ErrTag, 8))
	}
	return l
}

// badSpans are contents that are no spans, and texts that are not right.
func badSpans() []one {
	var l []one
	for _, x := range []api.Type{tText, tBytes, list(tInt), list(tText), table(tInt, tInt), table(tText, tBool), named("P"), named("O"), named("R"), named("U"), named("V")} {
		for _, b := range shortNumbers() {
			l = append(l, bad(x, b, api.ErrShort, 8))
		}
		for _, b := range wrongNumbers() {
			l = append(l, bad(x, b, api.ErrForm, 8))
		}
		for _, n := range []uint64{1<<31 - 1, 1 << 31, 1 << 32, 1<<32 + 1, 1<<63 - 1, 1 << 63, 1<<63 + 1, math.MaxUint64 - 1, math.MaxUint64} {
			l = append(l, bad(x, number(n), api.ErrShort, 8), bad(x, number(n)+"\x02\x00", api.ErrShort, 8))
		}
		l = append(l, bad(x, "\x01", api.ErrShort, 8), bad(x, "\x03\x02\x00", api.ErrShort, 8), bad(x, "\x04\xff\xff\xff", api.ErrShort, 8),
			bad(x, "\x80\x01"+strings.Repeat("\x02", 127), api.ErrShort, 8))
	}
	for _, s := range []string{"\xff", "\x80", "a\xff", "\xc3", "a\xc3", "\xc0\x80", "\xe2\x82", "\xe0\x80\x80", "\xed\xa0\x80", "\xed\xbf\xbf", "\xf4\x90\x80\x80", "\xf0\x80\x80\x80", "\xf8\x88\x80\x80\x80", "\xffabc"} {
		l = append(l, badIn(tText, s, api.ErrText, 8+len(s)), badIn(list(tText), "\x01a"+spanned(s), api.ErrText, 8+9+8+len(s)))
	}
	return l
}

// badItems are lists and maps with something wrong within.
func badItems() []one {
	e := named("E")
	top := strings.Repeat("\x80", 9) + "\x01" // 2^63
	return []one{
		badIn(list(tInt), "\x80", api.ErrShort, 16),
		badIn(list(tInt), "\x02\x80", api.ErrShort, 24),
		badIn(list(tInt), "\x02\x80\x00", api.ErrForm, 24),
		badIn(list(tBool), "\x01\x02", api.ErrForm, 24),
		badIn(list(tBool), "\x02\x80", api.ErrForm, 16),
		badIn(list(e), "\x05\x01", api.ErrTag, 24),
		badIn(list(e), "\x90\x4e\x80\x00", api.ErrTag, 16),
		badIn(list(tText), "\x01a\x02b", api.ErrShort, 25),
		badIn(list(tText), "\x01\xff\x05", api.ErrText, 17),
		badIn(list(tText), "\x05\xff", api.ErrShort, 16),
		// An inside is its span's alone, whatever stands behind it.
		badIn(list(list(tInt)), "\x01\x80\x01", api.ErrShort, 24),
		badIn(list(list(tText)), "\x01\x01a", api.ErrShort, 24),
		badIn(list(table(tInt, tInt)), "\x01\x00\x00", api.ErrShort, 32),
		badIn(list(named("P")), "\x02\x02\x00\x00", api.ErrNone, 32),
		badIn(list(named("P")), "\x00\x02\x02\x00", api.ErrNone, 16),
		badIn(list(named("P")), "\x01\x02\x00", api.ErrShort, 24),
		badIn(list(named("U")), "\x02\x04\x00\x00", api.ErrNone, 32),
		badIn(table(tInt, tInt), "\x02", api.ErrShort, 24),
		badIn(table(tInt, tText), "\x02", api.ErrShort, 24),
		badIn(table(tInt, named("P")), "\x02", api.ErrShort, 24),
		badIn(table(tInt, list(tInt)), "\x00\x00\x02", api.ErrShort, 40),
		badIn(table(tInt, tInt), "\x80", api.ErrShort, 16),
		badIn(table(tInt, tInt), "\x00\x80", api.ErrShort, 24),
		badIn(table(tInt, tInt), "\x00\x80\x00", api.ErrForm, 24),
		badIn(table(tInt, tBool), "\x00\x02", api.ErrForm, 24),
		badIn(table(tInt, tBool), "\x00\x02\x00\x00", api.ErrForm, 24),
		badIn(table(tBool, tBool), "\x02\x02", api.ErrForm, 16),
		badIn(table(tInt, e), "\x00\x01", api.ErrTag, 24),
		badIn(table(tInt, tText), "\x00\x01\xff", api.ErrText, 25),
		badIn(table(tInt, tText), "\x00\x02a", api.ErrShort, 24),
		badIn(table(tText, tInt), "\x01\xff", api.ErrText, 17),
		badIn(table(tText, tInt), "\x02a", api.ErrShort, 16),
		badIn(table(e, tInt), "\x01\x00", api.ErrTag, 16),
		// Keys that are the same, or fall: by numbers with their signs, or without, by texts.
		badIn(table(tInt, tInt), "\x00\x00\x00\x00", api.ErrTag, 32),
		badIn(table(tInt, tInt), "\x00\x00\x01\x00", api.ErrTag, 32),
		badIn(table(tInt, tInt), "\x02\x00\x00\x00", api.ErrTag, 32),
		badIn(table(tInt, tInt), "\x01\x00\x03\x00", api.ErrTag, 32),
		badIn(table(tInt, tInt), "\x03\x00\x01\x00\x02\x00\x02\x00", api.ErrTag, 64),
		badIn(table(tInt, tInt), "\x03\x00\x02\x00\x01\x00", api.ErrTag, 48),
		badIn(table(tUint, tBool), "\x01\x00\x01\x00", api.ErrTag, 32),
		badIn(table(tUint, tBool), top+"\x00\x01\x00", api.ErrTag, 32),
		badIn(table(tUint, tBool), top+"\x00"+top+"\x00", api.ErrTag, 32),
		badIn(table(tBool, tBool), "\x01\x00\x00\x00", api.ErrTag, 32),
		badIn(table(tBool, tBool), "\x00\x00\x01\x00\x01\x00", api.ErrTag, 48),
		badIn(table(e, e), "\x05\x00\x00\x00", api.ErrTag, 32),
		badIn(table(e, e), "\x05\x00\x05\x00", api.ErrTag, 32),
		badIn(table(e, e), "\x80\x01\x00\x05\x00", api.ErrTag, 32),
		badIn(table(tText, tInt), "\x00\x00\x00\x00", api.ErrTag, 32),
		badIn(table(tText, tInt), "\x01b\x00\x01a\x00", api.ErrTag, 34),
		badIn(table(tText, tInt), "\x01a\x00\x00\x00", api.ErrTag, 33),
		badIn(table(tText, tInt), "\x01b\x00\x02ab\x00", api.ErrTag, 35),
		badIn(table(tText, tInt), "\x02\xc3\xa4\x00\x01z\x00", api.ErrTag, 35),
		// Two faults, of which the first counts.
		badIn(table(tText, tInt), "\x01a\x00\x01a", api.ErrTag, 34),
		badIn(table(tText, tInt), "\x01a\x00\x01a\x80\x00", api.ErrTag, 34),
		badIn(table(tText, tInt), "\x01b\x00\x02a\xff\x00", api.ErrText, 35),
		badIn(table(tText, tInt), "\x01b\x80\x00\x01a\x00", api.ErrForm, 25),
		badIn(table(tBool, tBool), "\x01\x00\x02\x00", api.ErrForm, 32),
		badIn(table(tBool, tBool), "\x01\x02\x00\x00", api.ErrForm, 24),
		badIn(table(tInt, tInt), "\x00\x00\x80\x00", api.ErrForm, 32),
		badIn(table(tInt, tInt), "\x00\x00\x80", api.ErrShort, 32),
	}
}

// badFields are structs and unions with something wrong.
func badFields() []one {
	p, o, r, u, v := named("P"), named("O"), named("R"), named("U"), named("V")
	ten := strings.Repeat("\xff", 10)
	l := []one{
		// Rows that are missing.
		badIn(p, "", api.ErrNone, 8),
		badIn(p, "\x07\x00", api.ErrNone, 16),
		badIn(p, "\x0c\x00", api.ErrNone, 8),
		badIn(p, "\x05\x01a\x07\x01a\x09\x00\x13\x02\x04\x00\x15\x00", api.ErrNone, 41),
		badIn(r, "\x09\x04\x03\x02\x09\x00", api.ErrNone, 32),
		// Wires that are not the rows'.
		badIn(p, "\x03\x00", api.ErrKind, 8),
		badIn(p, "\x02\x00\x06\x00", api.ErrKind, 16),
		badIn(p, "\x02\x00\x07\x00\x08\x05", api.ErrKind, 24),
		badIn(p, "\x02\x00\x12\x00", api.ErrKind, 16),
		badIn(r, "\x02\x00", api.ErrKind, 8),
		badIn(r, "\x04\x00", api.ErrKind, 8),
		badIn(r, "\x06\x00", api.ErrKind, 8),
		badIn(r, "\x08\x00", api.ErrKind, 8),
		badIn(v, "\x05\x00", api.ErrKind, 8),
		// Tags that are the same, or fall, of rows and of none.
		badIn(p, "\x02\x00\x02\x00", api.ErrTag, 16),
		badIn(p, "\x07\x00\x02\x00", api.ErrTag, 16),
		badIn(p, "\x02\x00\x07\x00\x07\x00", api.ErrTag, 24),
		badIn(p, "\x02\x00\x0c\x00\x0c\x00", api.ErrTag, 16),
		badIn(p, "\x02\x00\x0d\x00\x0c\x00", api.ErrTag, 16),
		badIn(p, "\x02\x00\x0c\x00\x0d\x00", api.ErrTag, 16),
		badIn(p, "\x02\x00\x0c\x00\x0a\x00", api.ErrTag, 16),
		badIn(p, "\x0c\x00\x02\x00", api.ErrTag, 8),
		badIn(p, "\x02\x00\x0c\x00\x07\x00", api.ErrTag, 16),
		badIn(p, "\x02\x00\x09\x00\x04\x00", api.ErrTag, 24),
		badIn(o, "\xfe\x03\x00\xfc\x03\x00", api.ErrTag, 8),
		badIn(o, "\x02\x00\x03\x00", api.ErrTag, 8),
		// Keys that are none.
		badIn(p, "\x00\x00", api.ErrTag, 8),
		badIn(p, "\x01\x00", api.ErrTag, 8),
		badIn(p, "\x02\x00\x80\x04\x00", api.ErrTag, 16),
		badIn(p, "\x02\x00\x81\x04\x00", api.ErrTag, 16),
		badIn(p, "\x02\x00"+number(1<<32+6)+"\x00", api.ErrTag, 16),
		badIn(p, "\x02\x00"+number(1<<63+7)+"\x00", api.ErrTag, 16),
		badIn(p, "\x02\x00"+number(math.MaxUint64)+"\x00", api.ErrTag, 16),
		badIn(p, "\x02\x00\x80", api.ErrShort, 16),
		badIn(p, "\x82\x00\x00", api.ErrForm, 8),
		badIn(p, "\x02\x00"+ten, api.ErrForm, 16),
		badIn(p, "\x80", api.ErrShort, 8),
		// Contents that can't be taken, and others that can't be skipped.
		badIn(p, "\x02", api.ErrShort, 16),
		badIn(p, "\x02\x80\x00", api.ErrForm, 16),
		badIn(p, "\x02\x00\x07", api.ErrShort, 24),
		badIn(p, "\x02\x00\x07\x01\xff", api.ErrText, 25),
		badIn(p, "\x02\x00\x09\x01\x01", api.ErrTag, 32),
		badIn(p, "\x02\x00\x0c", api.ErrShort, 16),
		badIn(p, "\x02\x00\x0c\x80", api.ErrShort, 16),
		badIn(p, "\x02\x00\x0c\x80\x00", api.ErrForm, 16),
		badIn(p, "\x02\x00\x0c"+ten, api.ErrForm, 16),
		badIn(p, "\x02\x00\x0d", api.ErrShort, 16),
		badIn(p, "\x02\x00\x0d\x02a", api.ErrShort, 16),
		badIn(p, "\x02\x00\x0d\x80\x00", api.ErrForm, 16),
		badIn(p, "\x02\x00\x0d"+ten, api.ErrForm, 16),
		badIn(p, "\x02\x00\x0d"+number(1<<63)+"a", api.ErrShort, 16),
		badIn(p, "\x02\x00\x0d"+number(math.MaxUint64)+"a", api.ErrShort, 16),
		badIn(o, "\x03\x01", api.ErrShort, 8),
		// Two faults, of which the first counts.
		badIn(p, "\x02\x00\x02\x80\x00", api.ErrTag, 16),
		badIn(p, "\x02\x00\x03\x00", api.ErrTag, 16),
		badIn(p, "\x03\x80", api.ErrKind, 8),
		badIn(p, "\x06\x00\x0c\x80\x00", api.ErrKind, 8),
		badIn(p, "\x07\x00\x0c\x80\x00", api.ErrForm, 16),
		badIn(p, "\x07\x00\x06\x00", api.ErrTag, 16),
		badIn(p, "\x13\x00\x02\x80", api.ErrNone, 16),
		badIn(p, "\x0d\x02a", api.ErrShort, 8),
		badIn(p, "\x02\x80\x00\x02\x00", api.ErrForm, 16),
		// Unions: of nothing, of a tag that is no row's, of another wire, with something left.
		badIn(u, "", api.ErrNone, 8),
		badIn(u, "\x02\x00", api.ErrTag, 8),
		badIn(u, "\x03\x00", api.ErrTag, 8),
		badIn(u, "\x00\x00", api.ErrTag, 8),
		badIn(u, "\x01\x00", api.ErrTag, 8),
		badIn(u, "\x80\x04\x00", api.ErrTag, 8),
		badIn(u, number(1<<32+4)+"\x00", api.ErrTag, 8),
		badIn(u, "\x80", api.ErrShort, 8),
		badIn(u, "\x84\x00\x00", api.ErrForm, 8),
		badIn(u, ten, api.ErrForm, 8),
		badIn(u, "\x05\x00", api.ErrKind, 8),
		badIn(u, "\x0a\x00", api.ErrKind, 8),
		badIn(u, "\x0f\x00", api.ErrKind, 8),
		badIn(u, "\xc8\x01\x00", api.ErrKind, 8),
		badIn(u, "\x04\x00\x00", api.ErrForm, 16),
		badIn(u, "\x04\x00\x0e\x05", api.ErrForm, 16),
		badIn(u, "\x04\x00\x04\x00", api.ErrForm, 16),
		badIn(u, "\xc9\x01\x01a\x80", api.ErrForm, 17),
		badIn(u, "\x0b\x02\x02\x00\x00", api.ErrForm, 24),
		badIn(u, "\x0b\x02\x02\x00\x10\x00", api.ErrForm, 24),
		badIn(u, "\x04", api.ErrShort, 16),
		badIn(u, "\x04\x80", api.ErrShort, 16),
		badIn(u, "\x04\x80\x00", api.ErrForm, 16),
		badIn(u, "\x0b\x00", api.ErrNone, 16),
		badIn(u, "\x0e\x01", api.ErrTag, 16),
		badIn(u, "\xc9\x01\x02a", api.ErrShort, 16),
		badIn(v, "\x07\x00", api.ErrNone, 16),
		badIn(v, "\x03\x02\x02\x00", api.ErrKind, 16),
		// Two faults.
		badIn(u, "\x03\x80\x00", api.ErrTag, 8),
		badIn(u, "\x0f\x80\x00", api.ErrKind, 8),
		badIn(u, "\x0e\x01\x00", api.ErrTag, 16),
		badIn(u, "\x0b\x00\x00", api.ErrNone, 16),
		badIn(u, "\x0b\x03\x02\x00", api.ErrShort, 16),
	}
	return l
}

func wrongs() []one { return slices.Concat(badNumbers(), badSpans(), badItems(), badFields()) }

// matter is a type with its values, and the declarations that it needs.
type matter struct {
	l []api.Decl
	one
}

// at is a part as a row's field.
func (o one) at(tag int, p part) part {
	if o.num {
		return p.behind(number(uint64(2 * tag)))
	}
	return p.behind(number(uint64(2*tag + 1)))
}

// within is what its values are within others of a type.
func (o matter) within(x api.Type, made func(p part) part) matter {
	return matter{o.l, one{x, false, made(o.good), made(o.it)}}
}

// declared is the same with one declaration more, of a name of its own; the type is that declaration's.
func (o matter) declared(kind int, made func(p part) part, rows ...api.Field) matter {
	name := "W" + string(rune('a'+len(o.l)))
	o.l = append(slices.Clone(o.l), decl(kind, name, rows...))
	return o.within(named(name), made)
}

// wraps put a type and its values within others.
func wraps() []func(o matter) matter {
	num := func(v api.Value, b string) part { return part{v: v, b: b, cost: 8} }
	return []func(o matter) matter{
		func(o matter) matter {
			return o.within(list(o.x), func(p part) part { return whole(vList(), p) })
		},
		func(o matter) matter {
			return o.within(list(o.x), func(p part) part { return whole(vList(), o.good, o.good, p) })
		},
		func(o matter) matter {
			return o.within(table(tInt, o.x), func(p part) part {
				return whole(vMap(), num(vInt(-3), "\x05"), o.good, num(vInt(7), "\x0e"), p)
			})
		},
		func(o matter) matter {
			return o.within(table(named("E"), o.x), func(p part) part { return whole(vMap(), num(vEnum(128), "\x80\x01"), p) })
		},
		func(o matter) matter {
			// A text behind it, if there is no error, and fields of tags that are no row's, everywhere.
			made := func(p part) part {
				l := []part{num(vInt(1), "\x03\x01z\x04\x02"), o.at(6, p).behind("\x0a\x80\x01")}
				v := vStruct(tags(2, 6))
				if p.err == api.OK {
					l = append(l, part{v: vText("a"), b: "\x8f\x03\x02\xff\xff\x91\x03\x01a", cost: 9}, part{b: "\xfe\x03\x00"})
					v.Tags = tags(2, 6, 200)
				}
				w := whole(v, l...)
				w.v.Items = w.v.Items[:len(v.Tags)]
				return w
			}
			return o.declared(api.DStruct, made, field(200, "z", opt(tText)), field(6, "x", o.x), field(2, "a", tInt))
		},
		func(o matter) matter {
			made := func(p part) part { return whole(vStruct(tags(64)), o.at(64, p)) }
			return o.declared(api.DStruct, made, field(3, "a", opt(tInt)), field(64, "x", opt(o.x)), field(90, "b", opt(tText)))
		},
		func(o matter) matter {
			made := func(p part) part { return whole(api.Value{Kind: api.VUnion, Tags: tags(255)}, o.at(255, p)) }
			return o.declared(api.DUnion, made, field(1, "a", tInt), field(255, "x", o.x))
		},
	}
}

// wrapsOf are those within which a matter is told as it is: no bytes at all are no item of a list.
func wrapsOf(o one) []func(o matter) matter {
	if o.it.b == "" {
		return wraps()[2:]
	}
	return wraps()
}

// mayBeKey tells whether a map's keys may be of a type.
func mayBeKey(x api.Type) bool {
	return slices.Contains([]int{api.TBool, api.TInt, api.TUint, api.TText}, x.Kind) || x.Name == "E"
}

// keyed puts a type and its values within a map, as its keys: with a value behind, if there is no error.
func keyed(o matter) matter {
	return o.within(table(o.x, tBool), func(p part) part {
		if p.err != api.OK {
			return whole(vMap(), p)
		}
		return whole(vMap(), p, part{v: vBool(1), b: "\x01", cost: 8})
	})
}

// isMatter asks whether just this is told of the bytes of a struct that has such a row, be it one that must be there or not.
func isMatter(t *testing.T, o matter) {
	t.Helper()
	for _, x := range []api.Type{o.x, opt(o.x)} {
		d := of(t, append(slices.Clone(o.l), decl(api.DStruct, "W", field(9, "z", opt(tInt)), field(7, "y", x)))...)
		b := o.at(7, o.it).b
		if o.it.err == api.OK {
			is(t, d, "W", b, vStruct(tags(7), o.it.v), 8+o.it.cost)
		} else {
			isNot(t, d, "W", b, o.it.err, 8+o.it.cost)
		}
	}
}

// isModel asks of the same bytes what the model says; it tells what is wrong with them.
func isModel(t *testing.T, o matter) api.Errno {
	t.Helper()
	l := append(slices.Clone(o.l), decl(api.DStruct, "W", field(7, "y", opt(o.x))))
	return held(t, of(t, l...), l, "W", o.at(7, o.it).b).err
}

// 18.1: contents of each kind of type, by themselves in a struct; and those that are wrong.
func TestOnes(t *testing.T) {
	base := read(t, baseText).Decls()
	for _, o := range slices.Concat(fine(), wrongs()) {
		isMatter(t, matter{base, o})
	}
	d := of(t, base...)
	for _, o := range slices.Concat(trees(), strangers(), badFields()) {
		if d.Kind(o.x.Name) != api.DStruct {
			continue
		}
		// The struct's bytes are its inside.
		if o.it.err == api.OK {
			_, k, _ := modelNumber(o.it.b)
			is(t, d, o.x.Name, o.it.b[k:], o.it.v, o.it.cost)
		} else if _, k, e := modelNumber(o.it.b); e == api.OK {
			isNot(t, d, o.x.Name, o.it.b[k:], o.it.err, o.it.cost)
		}
	}
}

// 18.1: each of them within lists, maps, options, structs and unions, two levels deep, and keys of maps.
func TestWithin(t *testing.T) {
	base := read(t, baseText).Decls()
	for _, o := range slices.Concat(fine(), wrongs()) {
		bare := matter{base, o}
		asKey := mayBeKey(o.x) && o.it.b != ""
		if asKey {
			isMatter(t, keyed(bare))
		}
		for _, a := range wrapsOf(o) {
			isMatter(t, a(bare))
			if asKey {
				isMatter(t, a(keyed(bare)))
			}
		}
	}
}

// 18.1: two levels deep, some of them.
func TestTwiceWithin(t *testing.T) {
	base := read(t, baseText).Decls()
	for i, o := range slices.Concat(fine(), wrongs()) {
		for j, a := range wrapsOf(o) {
			for k, b := range wraps() {
				if (i+j+k)%4 == 0 {
					isMatter(t, b(a(matter{base, o})))
				}
			}
		}
	}
}

// 18.1: some of them four and six levels deep, where values may stand too deep.
func TestDeepWithin(t *testing.T) {
	base := read(t, baseText).Decls()
	all := wraps()
	n := map[api.Errno]int{}
	for i, o := range slices.Concat(fine(), wrongs()) {
		for j := range 5 {
			x := matter{base, o}
			for _, k := range []int{j, i + j/3, i/7 + j*3, i / 3} {
				x = all[k%len(all)](x)
			}
			n[isModel(t, x)]++
			if len(x.l)+3 < api.MaxDecls {
				n[isModel(t, all[i%7](all[(i+j)%7](x)))]++
			}
		}
	}
	for _, e := range []api.Errno{api.OK, api.ErrDeep, api.ErrShort, api.ErrForm, api.ErrTag, api.ErrText, api.ErrKind, api.ErrNone} {
		if n[e] < 20 {
			t.Fatal(n)
		}
	}
}

// 18.1: a number of each power of two, and those beside it, with and without a sign.
func TestBits(t *testing.T) {
	d := read(t, "struct P { 1 i: int?; 2 u: uint?; 3 l: list<uint>?; 4 m: map<int,int>?; }")
	for bit := range 64 {
		for _, n := range []uint64{1<<bit - 1, 1 << bit, 1<<bit + 1, math.MaxUint64 << bit, 5 << bit} {
			is(t, d, "P", "\x04"+number(n), vStruct(tags(2), vUint(n)), 16)
			is(t, d, "P", "\x02"+turned(int64(n)), vStruct(tags(1), vInt(int64(n))), 16)
			is(t, d, "P", "\x02"+turned(-int64(n)), vStruct(tags(1), vInt(-int64(n))), 16)
			is(t, d, "P", "\x07"+spanned(number(n)+"\x05"+number(n)), vStruct(tags(3), vList(vUint(n), vUint(5), vUint(n))), 40)
			is(t, d, "P", "\x09"+spanned(turned(int64(n))+turned(-int64(n))), vStruct(tags(4), vMap(vInt(int64(n)), vInt(-int64(n)))), 32)
		}
	}
	for n := int64(-300); n <= 300; n++ {
		is(t, d, "P", "\x02"+turned(n), vStruct(tags(1), vInt(n)), 16)
	}
	for n := range uint64(600) {
		is(t, d, "P", "\x04"+number(n), vStruct(tags(2), vUint(n)), 16)
	}
}

// 18.1: enums of some values, and each number that there may be, and some above; bools of each number.
func TestEnums(t *testing.T) {
	var rows []api.Field
	for i := range 16 {
		rows = append(rows, field((i*i*39+7)%10000, fmt.Sprint("v", i), api.Type{}))
	}
	d := of(t, decl(api.DEnum, "E", rows...), decl(api.DStruct, "P", field(1, "e", opt(named("E"))), field(2, "b", opt(tBool))))
	has := func(n int) bool { return slices.ContainsFunc(rows, func(f api.Field) bool { return f.Tag == n }) }
	for n := range 20500 {
		b := "\x02" + number(uint64(n))
		if has(n) {
			told(t, d, "P", b, 16, vStruct(tags(1), vEnum(int64(n))), 16, api.OK)
		} else {
			told(t, d, "P", b, 16, api.Value{}, 0, api.ErrTag)
		}
		b = "\x04" + number(uint64(n))
		if n < 2 {
			told(t, d, "P", b, 16, vStruct(tags(2), vBool(int64(n))), 16, api.OK)
		} else {
			told(t, d, "P", b, 16, api.Value{}, 0, api.ErrForm)
		}
	}
	for _, f := range rows {
		// The same number, but for a bit above.
		for bit := 14; bit < 64; bit++ {
			told(t, d, "P", "\x02"+number(uint64(f.Tag)|1<<bit), 16, api.Value{}, 0, api.ErrTag)
			told(t, d, "P", "\x02"+number(uint64(f.Tag)|math.MaxUint64<<bit), 16, api.Value{}, 0, api.ErrTag)
		}
	}
}

// 18.1: texts and bytes of each byte, of each two, and of runes of each length.
func TestAnyBytes(t *testing.T) {
	d := read(t, "struct P { 1 t: text?; 2 b: bytes?; }")
	for c := range 1 << 16 {
		b := string([]byte{byte(c), byte(c >> 8)})
		for _, s := range []string{b, b[:1]} {
			cost := 16 + len(s)
			told(t, d, "P", "\x05"+spanned(s), cost, vStruct(tags(2), vBytes(s)), cost, api.OK)
			if strings.ToValidUTF8(s, "") == s {
				told(t, d, "P", "\x03"+spanned(s), cost, vStruct(tags(1), vText(s)), cost, api.OK)
			} else {
				told(t, d, "P", "\x03"+spanned(s), cost, api.Value{}, 0, api.ErrText)
			}
		}
	}
	for _, r := range []rune{0, 'a', 127, 128, 0x7ff, 0x800, 0xd7ff, 0xe000, 0xfffd, 0xffff, 0x10000, 0x10ffff} {
		s := string(r)
		is(t, d, "P", "\x03"+spanned(s), vStruct(tags(1), vText(s)), 16+len(s))
		for i := 1; i < len(s); i++ {
			isNot(t, d, "P", "\x03"+spanned(s[:i]), api.ErrText, 16+i)
			isNot(t, d, "P", "\x03"+spanned(s[i:]), api.ErrText, 16+len(s)-i)
		}
	}
}

// 18.1: a struct with any of its rows, which stand in the schema's text in another order, and with fields of tags that are no row's.
func TestRows(t *testing.T) {
	d := read(t, "struct P { 70 d: text; 1 a: int; 63 c: bool?; 3 b: int?; 255 f: P?; 64 e: uint?; }")
	rows := []struct {
		tag  int
		v    api.Value
		in   string
		must bool
		cost int
	}{
		{1, vInt(1), "\x02\x02", true, 8},
		{2, api.Value{}, "\x04\x85\x01", false, 0},
		{3, vInt(-2), "\x06\x03", false, 8},
		{62, api.Value{}, "\x7d\x02\xff\x00", false, 0},
		{63, vBool(1), "~\x01", false, 8},
		{64, vUint(200), "\x80\x01\xc8\x01", false, 8},
		{70, vText("a"), "\x8d\x01\x01a", true, 9},
		{254, api.Value{}, "\xfc\x03\x00", false, 0},
		{255, vStruct(tags(1, 70), vInt(0), vText("")), "\xff\x03\x05\x02\x00\x8d\x01\x00", false, 24},
	}
	for set := range 1 << len(rows) {
		v, b, cost, err := vStruct(nil), "", 8, api.OK
		for i, row := range rows {
			if set>>i&1 == 1 {
				b, cost = b+row.in, cost+row.cost
				if row.v.Kind != 0 {
					v.Tags, v.Items = append(v.Tags, row.tag), append(v.Items, row.v)
				}
			} else if row.must {
				err = api.ErrNone
			}
		}
		if err == api.OK {
			is(t, d, "P", b, v, cost)
			in := vStruct(tags(1, 70, 255), vInt(1), vText(""), v)
			is(t, d, "P", "\x02\x02\x8d\x01\x00\xff\x03"+spanned(b), in, 24+cost)
		} else {
			isNot(t, d, "P", b, err, cost)
			isNot(t, d, "P", "\x02\x02\x8d\x01\x00\xff\x03"+spanned(b), err, 24+cost)
		}
	}
}

// keyOf is the bytes of a key, of one byte or of two.
func keyOf(tag, wire int) string {
	n := 2*tag + wire
	if n < 128 {
		return string([]byte{byte(n)})
	}
	return string([]byte{byte(n%128) | 128, byte(n / 128)})
}

// 18.1: keys of each tag, of both wires, in structs and in unions; and of those that are no row's.
func TestKeys(t *testing.T) {
	none := vStruct(nil)
	for tag := 1; tag <= 255; tag++ {
		for wire, x := range []api.Type{tInt, tText} {
			v, content, cost := vInt(-2), "\x03", 8
			if wire == 1 {
				v, content, cost = vText("a"), "\x01a", 9
			}
			d := of(t, decl(api.DStruct, "P", field(tag, "a", opt(x))), decl(api.DStruct, "Q", field(1, "u", opt(named("U")))), decl(api.DUnion, "U", field(tag, "a", x)))
			b, other := keyOf(tag, wire)+content, keyOf(tag, 1-wire)+"\x00"
			is(t, d, "P", b, vStruct(tags(tag), v), 8+cost)
			isNot(t, d, "P", other, api.ErrKind, 8)
			is(t, d, "Q", "\x03"+spanned(b), vStruct(tags(1), vUnion(tag, v)), 16+cost)
			isNot(t, d, "Q", "\x03"+spanned(other), api.ErrKind, 16)
			for _, stranger := range []int{tag - 1, tag + 1, tag ^ 64, tag ^ 128, 256 - tag} {
				if stranger < 1 || stranger > 255 || stranger == tag {
					continue
				}
				for w := range 2 {
					told(t, d, "P", keyOf(stranger, w)+"\x00", 8, none, 8, api.OK)
					told(t, d, "Q", "\x03"+spanned(keyOf(stranger, w)+"\x00"), 16, api.Value{}, 0, api.ErrTag)
				}
			}
		}
	}
}

// 18.1: a struct of all rows that there may be, in their order, and each two of them in another one.
func TestAllRows(t *testing.T) {
	var rows []api.Field
	var fields []string
	all, cost := vStruct(nil), 8
	for tag := 1; tag <= 255; tag++ {
		x, v, content := tInt, vInt(-2), "\x03"
		if tag%2 == 1 {
			x, v, content = tText, vText("a"), "\x01a"
		}
		rows, fields = append(rows, field(tag, fmt.Sprint("f", tag), opt(x))), append(fields, keyOf(tag, tag%2)+content)
		all.Tags, all.Items, cost = append(all.Tags, tag), append(all.Items, v), cost+value.Size(v)
	}
	slices.Reverse(rows)
	d := of(t, decl(api.DStruct, "P", rows...))
	is(t, d, "P", strings.Join(fields, ""), all, cost)
	for i, a := range fields {
		for _, b := range []string{fields[i/2], a, fields[max(i-1, 0)]} {
			isNot(t, d, "P", a+b, api.ErrTag, 8+value.Size(all.Items[i]))
		}
	}
}

// 18.1: spans of each length up to 300, and about those at which the length has a byte more: of texts, bytes, lists, maps, structs and unions, and of what is skipped; whole, and a byte too short.
func TestSpans(t *testing.T) {
	d := read(t, "struct P { 1 t: text?; 2 b: bytes?; 3 l: list<bool>?; 4 m: map<uint,bool>?; 5 p: P?; 6 u: U?; } union U { 1 a: bytes; }")
	lengths := []int{16382, 16383, 16384, 16385, 70000}
	for n := range 301 {
		lengths = append(lengths, n)
	}
	// both asks of a field, and of one whose last byte is not there.
	both := func(b string, v api.Value, short int) {
		t.Helper()
		cost := value.Size(v)
		told(t, d, "P", b, cost, v, cost, api.OK)
		told(t, d, "P", b, cost-1, api.Value{}, 0, api.ErrFull)
		if short > 0 {
			told(t, d, "P", b[:len(b)-1], short, api.Value{}, 0, api.ErrShort)
			told(t, d, "P", b[:len(b)-1], short-1, api.Value{}, 0, api.ErrFull)
		}
	}
	for _, n := range lengths {
		s := strings.Repeat("a", n)
		field := spanned(s)
		both("\x03"+field, vStruct(tags(1), vText(s)), 16)
		both("\x05"+field, vStruct(tags(2), vBytes(s)), 16)
		both("\x0b"+spanned("\x05"+field), vStruct(tags(5), vStruct(tags(2), vBytes(s))), 16)
		both("\x0d"+spanned("\x03"+field), vStruct(tags(6), vUnion(1, vBytes(s))), 16)
		both("\x0f"+field, vStruct(nil), 8)
		both("\x0b"+spanned("\x0f"+field), vStruct(tags(5), vStruct(nil)), 16)
		l, m, in := vList(slices.Repeat([]api.Value{vBool(1)}, n)...), vMap(), ""
		both("\x07"+number(uint64(n))+strings.Repeat("\x01", n), vStruct(tags(3), l), 16)
		for i := range n / 3 {
			m.Items, in = append(m.Items, vUint(uint64(i)), vBool(0)), in+number(uint64(i))+"\x00"
		}
		both("\x09"+spanned(in), vStruct(tags(4), m), 16)
	}
}

// 18.1: empty lists, maps, texts and structs, at the top and within; and no bytes at all.
func TestEmpty(t *testing.T) {
	d := read(t, "struct O { } struct Q { 1 a: list<O>?; 2 b: map<int,O>?; 3 c: text?; 4 d: O?; 5 e: U?; 6 f: list<list<text>>?; 7 g: bytes?; } union U { 1 o: O; } struct M { 1 m: O; } struct N { 2 m: list<M>; 3 n: text?; }")
	empty := vStruct(nil)
	is(t, d, "O", "", empty, 8)
	is(t, d, "Q", "", empty, 8)
	isNot(t, d, "M", "", api.ErrNone, 8)
	isNot(t, d, "N", "", api.ErrNone, 8)
	isNot(t, d, "N", "\x07\x00", api.ErrNone, 16)
	is(t, d, "M", "\x03\x00", vStruct(tags(1), empty), 16)
	is(t, d, "N", "\x05\x00", vStruct(tags(2), vList()), 16)
	isNot(t, d, "N", "\x05\x01\x00", api.ErrNone, 24)
	is(t, d, "N", "\x05\x03\x02\x03\x00", vStruct(tags(2), vList(vStruct(tags(1), empty))), 32)
	all := vStruct(tags(1, 2, 3, 4, 5, 6, 7), vList(), vMap(), vText(""), empty, vUnion(1, empty), vList(), vBytes(""))
	is(t, d, "Q", "\x03\x00\x05\x00\x07\x00\x09\x00\x0b\x02\x03\x00\x0d\x00\x0f\x00", all, 72)
	is(t, d, "Q", "\x03\x02\x00\x00", vStruct(tags(1), vList(empty, empty)), 32)
	is(t, d, "Q", "\x05\x02\x02\x00", vStruct(tags(2), vMap(vInt(1), empty)), 32)
	is(t, d, "Q", "\x0d\x04\x00\x02\x00\x00", vStruct(tags(6), vList(vList(), vList(vText(""), vText("")))), 48)
}

// 18.1: options of each type may be there, or not; options of options are in no schema that may be.
func TestOptions(t *testing.T) {
	base := read(t, baseText).Decls()
	for _, o := range fine() {
		l := append(slices.Clone(base), decl(api.DStruct, "W", field(7, "y", opt(o.x)), field(8, "z", opt(o.x)), field(9, "m", o.x)))
		d := of(t, l...)
		b, v := o.at(9, o.it).b, o.it.v
		is(t, d, "W", b, vStruct(tags(9), v), 8+o.it.cost)
		is(t, d, "W", o.at(7, o.it).b+b, vStruct(tags(7, 9), v, v), 8+2*o.it.cost)
		is(t, d, "W", o.at(8, o.it).b+b, vStruct(tags(8, 9), v, v), 8+2*o.it.cost)
		is(t, d, "W", o.at(7, o.it).b+o.at(8, o.it).b+b, vStruct(tags(7, 8, 9), v, v, v), 8+3*o.it.cost)
		isNot(t, d, "W", o.at(7, o.it).b+o.at(8, o.it).b, api.ErrNone, 8+2*o.it.cost)
		if _, f := desc.Of(append(slices.Clone(base), decl(api.DStruct, "W", field(7, "y", opt(opt(o.x)))))); f.Err != api.ErrType {
			t.Fatal(o.x, f)
		}
	}
}

// 18.1: what may be made: just as much as is, less, none, below 0; and whether a fault stands ahead of what costs too much, or behind.
func TestMost(t *testing.T) {
	d := read(t, "struct P { 1 a: int?; 2 b: text?; 3 c: list<text>?; 4 d: P?; 5 e: map<int,text>?; 6 f: bytes?; 7 g: U?; } union U { 1 t: text; }")
	none, full := api.Value{}, api.ErrFull
	for _, b := range []string{"", "\x02\x00", "\x00", "\x80", "\x03\x00", "\x05\x03abc", strings.Repeat("\xff", 20)} {
		for _, most := range []int{math.MinInt, math.MinInt + 1, -1 << 32, -8, -1, 0, 1, 7} {
			told(t, d, "P", b, most, none, 0, full)
			told(t, d, "U", b, most, none, 0, api.ErrType)
		}
	}
	told(t, d, "P", "", 8, vStruct(nil), 8, api.OK)
	for _, o := range []struct {
		b    string
		most int
		err  api.Errno
	}{
		// A value is made ahead of its content.
		{"\x02\x00", 15, full}, {"\x02\x00", 16, api.OK},
		{"\x02", 15, full}, {"\x02", 16, api.ErrShort},
		{"\x02\x80\x00", 15, full}, {"\x02\x80\x00", 16, api.ErrForm},
		{"\x05", 15, full}, {"\x05", 16, api.ErrShort},
		{"\x05\x80\x00", 15, full}, {"\x05\x80\x00", 16, api.ErrForm},
		{"\x07\x80", 15, full}, {"\x07\x80", 16, api.ErrShort},
		{"\x0f\x00", 15, full}, {"\x0f\x00", 16, api.ErrNone},
		// A text costs its bytes when it is taken: more bytes than there are are not, and one that is not right is.
		{"\x05\x03abc", 18, full}, {"\x05\x03abc", 19, api.OK},
		{"\x0d\x03abc", 18, full}, {"\x0d\x03abc", 19, api.OK},
		{"\x05\x04abc", 15, full}, {"\x05\x04abc", 16, api.ErrShort}, {"\x05\xff\x7fabc", 16, api.ErrShort},
		{"\x05\x03ab\xff", 15, full}, {"\x05\x03ab\xff", 18, full}, {"\x05\x03ab\xff", 19, api.ErrText},
		{"\x0f\x05\x03\x03ab\xff", 26, full}, {"\x0f\x05\x03\x03ab\xff", 27, api.ErrText},
		// A list, a map, a struct and a union cost nothing but what is within.
		{"\x07\x00", 15, full}, {"\x07\x00", 16, api.OK},
		{"\x07\x04\x01a\x01b", 33, full}, {"\x07\x04\x01a\x01b", 34, api.OK},
		{"\x0b\x03\x02\x01a", 32, full}, {"\x0b\x03\x02\x01a", 33, api.OK},
		{"\x0f\x03\x03\x01a", 24, full}, {"\x0f\x03\x03\x01a", 25, api.OK},
		// What is skipped costs nothing.
		{"\x10\x00", 8, api.OK}, {"\x11\x03abc", 8, api.OK}, {"\x11\x03ab", 8, api.ErrShort}, {"\xff\x03\x80\x01" + strings.Repeat("x", 128), 8, api.OK},
		// A key, its order and its wire are ahead of what is made.
		{"\x00", 8, api.ErrTag}, {"\x80", 8, api.ErrShort}, {"\x82\x00\x00", 8, api.ErrForm}, {"\x03\x00", 8, api.ErrKind}, {"\x04\x00", 8, api.ErrKind},
		{"\x02\x00\x02\x00", 16, api.ErrTag}, {"\x02\x00\x04\x00", 16, api.ErrKind}, {"\x02\x00\x80", 16, api.ErrShort},
		{"\x02\x00\x02\x00", 15, full}, {"\x02\x00\x04\x00", 15, full}, {"\x02\x00\x80", 15, full},
		{"\x0f\x02\x02\x00", 16, api.ErrKind}, {"\x0f\x02\x05\x00", 16, api.ErrTag}, {"\x0f\x01\x80", 16, api.ErrShort},
		// A fault ahead of what costs too much, and behind it.
		{"\x02\x80\x00\x05\x03abc", 16, api.ErrForm}, {"\x02\x00\x05\x03abc\x02\x00", 26, full}, {"\x02\x00\x05\x03abc\x02\x00", 27, api.ErrTag},
		{"\x05\x03ab\xff\x07\x01", 19, api.ErrText}, {"\x05\x03abc\x07\x01", 26, full}, {"\x05\x03abc\x07\x01", 27, api.ErrShort},
		{"\x07\x05\x01\xff\x02ab", 25, api.ErrText}, {"\x07\x05\x02ab\x01\xff", 34, full}, {"\x07\x05\x02ab\x01\xff", 35, api.ErrText},
		// A map's key is made, held against the one ahead, and then its value is made, if there is nothing left, too.
		{"\x0b\x01\x02", 23, full}, {"\x0b\x01\x02", 24, full}, {"\x0b\x01\x02", 31, full}, {"\x0b\x01\x02", 32, api.ErrShort},
		{"\x0b\x03\x02\x00\x02", 39, full}, {"\x0b\x03\x02\x00\x02", 40, api.ErrTag}, {"\x0b\x03\x02\x00\x04", 40, full}, {"\x0b\x03\x02\x00\x04", 47, full}, {"\x0b\x03\x02\x00\x04", 48, api.ErrShort},
		{"\x0b\x04\x02\x00\x02\x00", 39, full}, {"\x0b\x04\x02\x00\x02\x00", 40, api.ErrTag},
	} {
		h := held(t, d, d.Decls(), "P", o.b)
		want, n, _ := h.answer(o.most)
		told(t, d, "P", o.b, o.most, want, n, o.err)
		// The same within a struct that costs 8 bytes.
		if o.err == api.OK {
			want, n = vStruct(tags(4), want), n+8
		}
		told(t, d, "P", "\x09"+spanned(o.b), o.most+8, want, n, o.err)
	}
}

// shallow is what the values of a tree cost that stand within fewer than MaxDeep others.
func shallow(v api.Value, within int) int {
	if within > 7 {
		return 0
	}
	n := 8 + len(v.Text)
	for _, x := range v.Items {
		n += shallow(x, within+1)
	}
	return n
}

// chain is a value that stands within another one of its kind, that one again, and so on: the tag of its row, its inside, and how it goes on.
type chain struct {
	tag  int
	v    api.Value
	in   string
	more func(v api.Value, in string) (api.Value, string)
}

func chains() []chain {
	return []chain{
		{1, vList(), "", func(v api.Value, in string) (api.Value, string) { return vList(v), spanned(in) }},
		{1, vList(), "", func(v api.Value, in string) (api.Value, string) {
			return vList(vList(), v), "\x00" + spanned(in)
		}},
		{2, vStruct(nil), "", func(v api.Value, in string) (api.Value, string) { return vStruct(tags(1), v), "\x03" + spanned(in) }},
		{2, vStruct(nil), "", func(v api.Value, in string) (api.Value, string) {
			return vStruct(tags(2), vList(v)), "\x05" + spanned(spanned(in))
		}},
		{2, vStruct(nil), "", func(v api.Value, in string) (api.Value, string) {
			return vStruct(tags(3), vMap(vInt(7), v)), "\x07" + spanned("\x0e"+spanned(in))
		}},
		{2, vStruct(nil), "", func(v api.Value, in string) (api.Value, string) {
			return vStruct(tags(4), vUnion(1, v)), "\x09" + spanned("\x03"+spanned(in))
		}},
		{3, vUnion(2, vEnum(5)), "\x04\x05", func(v api.Value, in string) (api.Value, string) { return vUnion(3, v), "\x07" + spanned(in) }},
	}
}

// 18.1: values up to MaxDeep deep, and deeper ones.
func TestDeep(t *testing.T) {
	x := tInt
	for range 12 {
		x = list(x)
	}
	l := append(read(t, baseText).Decls(), decl(api.DStruct, "L", field(1, "l", opt(x)), field(2, "r", opt(named("R"))), field(3, "v", opt(named("V")))))
	d := of(t, l...)
	asked := func(name, b string, v api.Value) {
		t.Helper()
		if value.Deep(v) > 8 {
			isNot(t, d, name, b, api.ErrDeep, shallow(v, 0))
		} else {
			is(t, d, name, b, v, value.Size(v))
		}
	}
	for _, o := range chains() {
		for value.Deep(o.v) < 13 {
			asked("L", keyOf(o.tag, 1)+spanned(o.in), vStruct(tags(o.tag), o.v))
			if o.tag == 2 {
				asked("R", o.in, o.v)
			}
			o.v, o.in = o.more(o.v, o.in)
		}
	}
}

// nested is the bytes of a struct of TestTooDeep's schema, within so many others.
func nested(b string, n int) string {
	for range n {
		b = "\x03" + spanned(b)
	}
	return b
}

// 18.1: what is told where values stand too deep: what is ahead of them, and nothing of what they have.
func TestTooDeep(t *testing.T) {
	d := read(t, "struct P { 1 p: P?; 2 a: int?; 3 t: text?; 4 l: list<int>?; 5 m: map<int,int>?; 6 u: U?; } union U { 1 a: int; }")
	deep := api.ErrDeep
	// Within seven others a struct is, and nothing within it may be.
	for _, o := range []struct {
		b   string
		err api.Errno
	}{
		{"", api.OK}, {"\x0e\x00", api.OK}, {"\x0f\x03abc", api.OK},
		{"\x04\x00", deep}, {"\x04", deep}, {"\x04\x80\x00", deep}, {"\x07\x01\xff", deep}, {"\x07\x02", deep}, {"\x03\x00", deep}, {"\x09\x00", deep},
		{"\x0b\x01\x00", deep}, {"\x0d\x00", deep}, {"\x0d\x80\x00", deep}, {"\x04\x00\x04\x00", deep}, {"\x0e\x00", api.OK},
		{"\x05\x00", api.ErrKind}, {"\x00", api.ErrTag}, {"\x0e\x80", api.ErrShort}, {"\x0e\x00\x04\x00", api.ErrTag}, {"\x0f\x02\x00", api.ErrShort},
	} {
		b := nested(o.b, 7)
		if h := held(t, d, d.Decls(), "P", b); o.err == api.OK {
			is(t, d, "P", b, h.v, 64)
		} else {
			isNot(t, d, "P", b, o.err, 64)
		}
	}
	// Within seven others lists, maps, unions and all else are as well, and nothing may be within them.
	for _, o := range []struct {
		b    string
		err  api.Errno
		cost int
	}{
		{"\x09\x00", api.OK, 64}, {"\x0b\x00", api.OK, 64}, {"\x07\x01a", api.OK, 65}, {"\x04\x05", api.OK, 64}, {"\x03\x00", api.OK, 64},
		{"\x09\x01\x00", deep, 64}, {"\x09\x01\x80", deep, 64}, {"\x0b\x02\x00\x00", deep, 64}, {"\x0b\x01\x00", deep, 64}, {"\x0d\x02\x02\x00", deep, 64}, {"\x0d\x02\x02\x80", deep, 64},
		{"\x03\x02\x04\x00", deep, 64}, {"\x04\x00\x09\x01\x00", deep, 72}, {"\x09\x01\x00\x04\x00", deep, 64},
		{"\x0d\x00", api.ErrNone, 64}, {"\x0d\x02\x03\x00", api.ErrKind, 64}, {"\x0d\x02\x04\x00", api.ErrTag, 64}, {"\x09\x02\x00", api.ErrShort, 64},
	} {
		b := nested(o.b, 6)
		if h := held(t, d, d.Decls(), "P", b); o.err == api.OK {
			is(t, d, "P", b, h.v, o.cost)
		} else {
			isNot(t, d, "P", b, o.err, o.cost)
		}
	}
}

// 18.1: a struct's name, and others; of these it is ErrType, whatever the bytes are, and whatever may be made.
func TestNames(t *testing.T) {
	d := read(t, baseText)
	bytes := []string{"", "\x00", "\x80", "\x02\x00", "\x03\x00", "\x05\x01a", "\x04\x05", "\x02\x08\x07\x01a", "\xff\xff"}
	for name, kind := range map[string]int{"P": 1, "O": 1, "R": 1, "K": 1, "U": 2, "V": 2, "E": 3, "S": 4, "Z": 0, "": 0, "p": 0, "P ": 0, "int": 0, "get": 0} {
		for _, b := range bytes {
			for _, most := range []int{math.MinInt, -1, 0, 8, 100, math.MaxInt} {
				for _, other := range []*desc.Desc{nil, {}, read(t, "")} {
					told(t, other, name, b, most, api.Value{}, 0, api.ErrType)
				}
				if kind != api.DStruct {
					told(t, d, name, b, most, api.Value{}, 0, api.ErrType)
				}
			}
			h := held(t, d, d.Decls(), name, b)
			if (h.err == api.ErrType) != (kind != api.DStruct) {
				t.Fatal(name, h.err)
			}
		}
	}
	// An empty name, or any other text, may be one of declarations that no text tells.
	d = of(t, decl(api.DStruct, "", field(4, "", named("\xff"))), decl(api.DStruct, "\xff", field(1, "\x00", tInt)))
	is(t, d, "", "\x09\x02\x02\x01", vStruct(tags(4), vStruct(tags(1), vInt(-1))), 24)
	is(t, d, "\xff", "\x02\x01", vStruct(tags(1), vInt(-1)), 16)
	isNot(t, d, "", "", api.ErrNone, 8)
}

// 18.1: what declarations have beside their own counts for nothing: fields of a service, types of an enum's values, methods of others.
func TestBeside(t *testing.T) {
	methods := []api.Method{{Tag: 9, Name: "m", In: "P", Out: "P"}}
	e := decl(api.DEnum, "E", field(1, "a", tText), field(2, "b", opt(opt(tInt))), field(0, "c", named("P")))
	p := decl(api.DStruct, "P", field(1, "e", named("E")), field(2, "l", opt(list(named("E")))))
	s := decl(api.DService, "S", field(3, "e", named("E")))
	e.Methods, p.Methods = methods, methods
	d := of(t, e, p, s)
	is(t, d, "P", "\x02\x01\x05\x03\x02\x00\x02", vStruct(tags(1, 2), vEnum(1), vList(vEnum(2), vEnum(0), vEnum(2))), 48)
	is(t, d, "P", "\x02\x01\x12\x00", vStruct(tags(1), vEnum(1)), 16)
	isNot(t, d, "P", "\x02\x03", api.ErrTag, 16)
	isNot(t, d, "P", "\x02\x09", api.ErrTag, 16)
	told(t, d, "S", "\x06\x01", 100, api.Value{}, 0, api.ErrType)
	told(t, d, "E", "\x06\x01", 100, api.Value{}, 0, api.ErrType)
}

// asked are structs of baseText's schema, and one more, with bytes that are right, and their names.
func asked(t *testing.T) (*desc.Desc, map[string][]string) {
	t.Helper()
	l := append(read(t, baseText).Decls(), decl(api.DStruct, "T", field(1, "a", opt(table(tText, list(tBytes)))), field(2, "b", opt(list(table(tUint, named("V"))))), field(100, "c", opt(named("U"))), field(120, "d", opt(list(tText)))))
	r := map[string][]string{
		"T": {
			"\x03" + spanned("\x01a\x00\x01b\x03\x00\x01c") + "\x05" + spanned(spanned("\x01\x02\x04\x05\xc8\x01\x02\x03\x00")+"\x00") + "\xc9\x01\x03\xc9\x01\x00\xf1\x01\x03\x02ab",
			"\x05\x03\x00\x00\x00\xf1\x01\x02\x00\x00",
		},
		"P": {"\x02\x08\x04\x05\x07\x01a\x0b\x02\xff\xff\x0c\x80\x01\x13\x02\x04\x00\x14\x01"},
	}
	d := of(t, l...)
	for _, o := range trees() {
		if d.Kind(o.x.Name) == api.DStruct {
			_, k, _ := modelNumber(o.it.b)
			r[o.x.Name] = append(r[o.x.Name], o.it.b[k:])
		}
	}
	return d, r
}

// 18.1: bytes that are right, with one thing another one: cut off anywhere, with each byte another one, without it, or with one more.
func TestOneThing(t *testing.T) {
	d, all := asked(t)
	l := d.Decls()
	n := map[api.Errno]int{}
	for name, bytes := range all {
		for _, b := range bytes {
			if h := held(t, d, l, name, b); h.err != api.OK {
				t.Fatal(name, []byte(b), h.err)
			}
			for i := range len(b) {
				n[held(t, d, l, name, b[:i]).err]++
				n[held(t, d, l, name, b[i:]).err]++
				n[held(t, d, l, name, b[:i]+b[i+1:]).err]++
				n[held(t, d, l, name, b[:i]+b[i:i+1]+b[i:]).err]++
				for c := range 256 {
					n[held(t, d, l, name, b[:i]+string([]byte{byte(c)})+b[i+1:]).err]++
				}
				for _, c := range []string{"\x00", "\x01", "\x02", "\x80", "\xff", "\x80\x00", "\x0c\x00"} {
					n[held(t, d, l, name, b[:i]+c+b[i:]).err]++
				}
			}
		}
	}
	for _, e := range []api.Errno{api.OK, api.ErrForm, api.ErrShort, api.ErrKind, api.ErrTag, api.ErrText, api.ErrNone} {
		if n[e] < 100 {
			t.Fatal(n)
		}
	}
}

// eachText tells all texts of so many of some bytes.
func eachText(bytes string, n int, tell func(s string)) {
	b := make([]byte, n)
	var put func(i int)
	put = func(i int) {
		if i == n {
			tell(string(b))
			return
		}
		for _, c := range []byte(bytes) {
			b[i] = c
			put(i + 1)
		}
	}
	put(0)
}

// 18.1: all short texts of some few bytes, by schemas that give each of them a meaning.
func TestShortTexts(t *testing.T) {
	n := map[api.Errno]int{}
	for text, bytes := range map[string]string{
		"struct P { 1 a: bool; 2 b: text?; }":                                                  "\x00\x01\x02\x04\x05\x07\x80\xc3\xff",
		"struct P { 1 a: map<bool,text>?; 2 u: U?; } union U { 1 e: E; } enum E { 0 A; 3 B; }": "\x00\x01\x02\x03\x04\x05\x06\x80",
		"struct P { 1 l: list<P>?; 2 m: map<int,P>?; 3 n: P?; }":                               "\x00\x01\x02\x03\x04\x05\x07\x80",
		"struct P { 1 l: list<U>?; 2 t: map<text,int>?; } union U { 1 p: P; 2 i: int; }":       "\x00\x01\x02\x03\x04\x05\x06\x80",
	} {
		d := read(t, text)
		l := d.Decls()
		for k := range 6 {
			eachText(bytes, k, func(s string) { n[held(t, d, l, "P", s).err]++ })
		}
	}
	for _, e := range []api.Errno{api.OK, api.ErrForm, api.ErrShort, api.ErrKind, api.ErrTag, api.ErrText, api.ErrNone} {
		if n[e] < 500 {
			t.Fatal(n)
		}
	}
}

// sort is a type, whether its values are written as numbers, and how one of its values is made by chance, with its inside.
type sort struct {
	*chance
	x    api.Type
	num  bool
	draw func() (api.Value, string)
}

// chance makes types and values by chance, and the declarations that they need.
type chance struct {
	*rand.Rand
	l        []api.Decl
	strange  bool // there are fields of tags that are no row's
	spoiling int  // one inside of so many is spoilt, if it is above 0
}

// content is a value of a sort, with its content.
func (o sort) content() (api.Value, string) {
	v, in := o.draw()
	in = o.spoilt(in)
	if o.num {
		return v, in
	}
	return v, o.spoilt(spanned(in))
}

// spoilt are bytes with one thing another one, if chance will have it.
func (r *chance) spoilt(b string) string {
	if r.spoiling == 0 || r.Intn(r.spoiling) > 0 {
		return b
	}
	i := r.Intn(len(b) + 1)
	odd := []string{"\x00", "\x01", "\x02", "\x03", "\x80", "\xff", "\x80\x00", number(r.Uint64() >> r.Intn(64)), strings.Repeat("\xff", 10), keyOf(1+r.Intn(255), r.Intn(2))}[r.Intn(10)]
	switch r.Intn(6) {
	case 0:
		return b[:i]
	case 1:
		return b[i:]
	case 2:
		return b[:i] + odd + b[i:]
	case 3:
		return b[:i] + odd + b[min(len(b), i+len(odd)):]
	case 4:
		return b + b[i:]
	}
	return odd
}

// key is a sort of what may be a map's keys.
func (r *chance) key() sort {
	switch r.Intn(5) {
	case 0:
		return sort{r, tBool, true, func() (api.Value, string) { n := r.Intn(2); return vBool(int64(n)), string([]byte{byte(n)}) }}
	case 1:
		return sort{r, tInt, true, func() (api.Value, string) { n := int64(r.Uint64()) >> r.Intn(64); return vInt(n), turned(n) }}
	case 2:
		return sort{r, tUint, true, func() (api.Value, string) { n := r.Uint64() >> r.Intn(64); return vUint(n), number(n) }}
	case 3:
		return r.enum()
	}
	return sort{r, tText, false, func() (api.Value, string) {
		s := strings.Repeat([]string{"a", "b", "\u20ac", "\x01"}[r.Intn(4)], r.Intn(70))
		return vText(s), s
	}}
}

// enum is a sort of an enum of its own.
func (r *chance) enum() sort {
	name := fmt.Sprint("D", len(r.l))
	all := r.Perm(300)[:1+r.Intn(9)]
	var rows []api.Field
	for _, n := range all {
		rows = append(rows, field(n, fmt.Sprint("v", n), api.Type{}))
	}
	r.l = append(r.l, decl(api.DEnum, name, rows...))
	return sort{r, named(name), true, func() (api.Value, string) {
		n := all[r.Intn(len(all))]
		return vEnum(int64(n)), number(uint64(n))
	}}
}

// some is a sort of any type, within which so many others may be.
func (r *chance) some(deep int) sort {
	n := 7
	if deep > 0 {
		n = 12
	}
	switch r.Intn(n) {
	case 5:
		return sort{r, tBytes, false, func() (api.Value, string) {
			b := make([]byte, r.Intn(140))
			r.Read(b)
			return vBytes(string(b)), string(b)
		}}
	case 7:
		return r.list(deep)
	case 8:
		return r.table(deep)
	case 9, 10:
		return r.record(deep)
	case 11:
		return r.union(deep)
	}
	return r.key()
}

func (r *chance) list(deep int) sort {
	of := r.some(deep - 1)
	return sort{r, list(of.x), false, func() (api.Value, string) {
		v, in := vList(), ""
		for range r.Intn(5) {
			x, s := of.content()
			v.Items, in = append(v.Items, x), in+s
		}
		return v, in
	}}
}

func (r *chance) table(deep int) sort {
	keys, of := r.key(), r.some(deep-1)
	return sort{r, table(keys.x, of.x), false, func() (api.Value, string) {
		v, in := vMap(), ""
		for range r.Intn(5) {
			k, ahead := keys.content()
			x, s := of.content()
			if n := len(v.Items); n == 0 || less(v.Items[n-2], k) || r.spoiling > 0 && r.Intn(r.spoiling) == 0 {
				v.Items, in = append(v.Items, k, x), in+ahead+s
			}
		}
		return v, in
	}}
}

// rows are the tags of some rows, rising, and their sorts.
func (r *chance) rows(deep, least int) ([]int, []sort) {
	all := r.Perm(255)[:least+r.Intn(5)]
	var l []sort
	for i := range all {
		all[i]++
		l = append(l, r.some(deep-1))
	}
	slices.Sort(all)
	return all, l
}

// field is an item's field, with the item.
func (o sort) field(tag int) (api.Value, string) {
	v, s := o.content()
	wire := 1
	if o.num {
		wire = 0
	}
	if o.spoiling > 0 && o.Intn(o.spoiling) == 0 {
		wire = o.Intn(2)
	}
	return v, o.spoilt(keyOf(tag, wire)) + s
}

// stranger is a field of a tag that is no row's, between two tags, if there is one.
func (r *chance) stranger(ahead, behind int) string {
	if !r.strange || ahead+1 >= behind || r.Intn(3) > 0 {
		return ""
	}
	tag := ahead + 1 + r.Intn(behind-ahead-1)
	if r.Intn(2) == 0 {
		return keyOf(tag, 0) + number(r.Uint64()>>r.Intn(64))
	}
	b := make([]byte, r.Intn(9))
	r.Read(b)
	return keyOf(tag, 1) + spanned(string(b))
}

func (r *chance) record(deep int) sort {
	all, l := r.rows(deep, 0)
	may := r.Perm(len(all))[:r.Intn(len(all)+1)]
	var rows []api.Field
	for i, tag := range all {
		x := l[i].x
		if slices.Contains(may, i) {
			x = opt(x)
		}
		rows = append(rows, field(tag, fmt.Sprint("f", tag), x))
	}
	r.Shuffle(len(rows), func(i, j int) { rows[i], rows[j] = rows[j], rows[i] })
	name := fmt.Sprint("D", len(r.l))
	r.l = append(r.l, decl(api.DStruct, name, rows...))
	return sort{r, named(name), false, func() (api.Value, string) {
		v, in, last := vStruct(nil), "", 0
		for i, tag := range all {
			in += r.stranger(last, tag)
			last = tag
			if slices.Contains(may, i) && r.Intn(2) == 0 {
				continue
			}
			x, s := l[i].field(tag)
			v.Tags, v.Items, in = append(v.Tags, tag), append(v.Items, x), in+s
		}
		return v, in + r.stranger(last, 256)
	}}
}

func (r *chance) union(deep int) sort {
	all, l := r.rows(deep, 1)
	var rows []api.Field
	for i, tag := range all {
		rows = append(rows, field(tag, fmt.Sprint("f", tag), l[i].x))
	}
	name := fmt.Sprint("D", len(r.l))
	r.l = append(r.l, decl(api.DUnion, name, rows...))
	return sort{r, named(name), false, func() (api.Value, string) {
		i := r.Intn(len(all))
		x, s := l[i].field(all[i])
		return vUnion(all[i], x), s
	}}
}

// heldChance asks of a struct, and of bytes of it, all by chance; it counts what is told.
func heldChance(t *testing.T, seed int64, n map[api.Errno]int) {
	t.Helper()
	r := &chance{Rand: rand.New(rand.NewSource(seed)), strange: seed%2 == 0}
	// A struct with seven within it is as deep as may be.
	o := r.record(6 + int(seed%5))
	d, name := of(t, r.l...), o.x.Name
	for range 6 {
		r.spoiling = 0
		v, b := o.draw()
		h := held(t, d, r.l, name, b)
		if value.Deep(v) <= 8 {
			is(t, d, name, b, v, value.Size(v))
		} else if h.err != api.ErrDeep {
			t.Fatal(h.err)
		}
		n[h.err]++
		if s, e := encode.Inside(d, o.x, v); e == api.OK && !r.strange && s != b {
			t.Fatalf("%v: %v, not %v", value.Text(v), []byte(s), []byte(b))
		}
		for range 6 {
			r.spoiling = 1 + r.Intn(20)
			_, b := o.draw()
			n[held(t, d, r.l, name, r.spoilt(b)).err]++
		}
	}
}

// 18.1, 18.2: schemas, values and bytes by chance.
func TestByChance(t *testing.T) {
	n := map[api.Errno]int{}
	for seed := range int64(1200) {
		heldChance(t, seed, n)
	}
	for _, e := range []api.Errno{api.OK, api.ErrForm, api.ErrShort, api.ErrKind, api.ErrTag, api.ErrText, api.ErrNone, api.ErrDeep} {
		if n[e] < 30 {
			t.Fatal(n)
		}
	}
}

// 18.2: with more that may be made the answer is the same, if it was not ErrFull; and it is ErrFull up to one most.
func TestMore(t *testing.T) {
	base := read(t, baseText).Decls()
	for _, o := range slices.Concat(fine(), wrongs()) {
		l := append(slices.Clone(base), decl(api.DStruct, "W", field(7, "y", o.x)))
		d, b := of(t, l...), o.at(7, o.it).b
		v, n, e := Decode(d, "W", b, math.MaxInt)
		for most := -3; most < 300; most++ {
			v2, n2, e2 := Decode(d, "W", b, most)
			if full := most < 8+o.it.cost; full && !same(v2, n2, e2, api.Value{}, 0, api.ErrFull) || !full && !same(v2, n2, e2, v, n, e) {
				t.Fatalf("%v, %d: %v, %d, %v", []byte(b), most, value.Text(v2), n2, e2)
			}
		}
	}
}

// encoded is the bytes of a struct.
func encoded(t *testing.T, d *desc.Desc, name string, v api.Value) string {
	t.Helper()
	s, e := encode.Inside(d, named(name), v)
	if e != api.OK {
		t.Fatalf("%q, %v: %v", name, value.Text(v), e)
	}
	return s
}

// 18.2: what was encoded by a schema is decoded by one that takes its place, but for rows that went; and what is of rows that are new by the other one, as if they were not there.
func TestPlace(t *testing.T) {
	old := read(t, "struct P { 1 a: int; 3 b: text?; 4 c: list<E>?; 9 d: U?; 10 e: list<P>?; 11 f: map<text,P>?; 12 g: P?; } union U { 2 n: int; 5 p: P; } enum E { 0 A; 5 B; } struct O { 1 n: int?; 200 m: bytes?; }")
	now := read(t, "enum E { 5 Y; 7 Z; 0 X; } struct O { 7 z: E?; } struct Q { 1 a: int; } union U { 5 q: P; 2 m: int; 6 o: Q; } struct P { 12 z: P?; 10 y: list<P>?; 4 x: list<E>?; 2 new: uint?; 11 w: map<text,P>?; 9 v: U?; 8 more: text?; 1 u: int; 250 last: bool?; }")
	if e, name := compat.Check(old, now); e != api.OK {
		t.Fatal(e, name)
	}
	i, s := vInt(4), vText("abc")
	p, q := vStruct(tags(1, 3), i, s), vStruct(tags(1), i) // with the row that went, and without it
	rest := func(p api.Value) []api.Value {
		return []api.Value{
			p,
			vStruct(tags(1, 4), i, vList(vEnum(0), vEnum(5))),
			vStruct(tags(1, 9), i, vUnion(2, i)),
			vStruct(tags(1, 9), i, vUnion(5, p)),
			vStruct(tags(1, 10), i, vList(p, p, q)),
			vStruct(tags(1, 11), i, vMap(vText(""), p, vText("a"), q, vText("b"), p)),
			vStruct(tags(1, 12), i, p),
			vStruct(tags(1, 9, 10, 12), i, vUnion(5, vStruct(tags(1, 12), i, p)), vList(vStruct(tags(1, 10), i, vList(p))), p),
		}
	}
	with, without := rest(p), rest(q)
	for j, v := range with {
		is(t, old, "P", encoded(t, old, "P", v), v, value.Size(v))
		is(t, now, "P", encoded(t, old, "P", v), without[j], value.Size(without[j]))
	}
	is(t, now, "P", encoded(t, old, "P", vStruct(tags(1, 3, 9), i, s, vUnion(2, i))), vStruct(tags(1, 9), i, vUnion(2, i)), 32)
	for _, v := range []api.Value{vStruct(nil), vStruct(tags(1), i), vStruct(tags(200), vBytes("\xff")), vStruct(tags(1, 200), i, vBytes(""))} {
		is(t, now, "O", encoded(t, old, "O", v), vStruct(nil), 8)
	}
	// Those of rows that are new are of no row by the schema ahead.
	v := vStruct(tags(1, 2, 8, 9, 12, 250), i, vUint(5), s, vUnion(5, vStruct(tags(1, 250), i, vBool(1))), vStruct(tags(1, 2), i, vUint(1)), vBool(0))
	is(t, old, "P", encoded(t, now, "P", v), vStruct(tags(1, 9, 12), i, vUnion(5, q), q), 56)
	isNot(t, old, "P", encoded(t, now, "P", vStruct(tags(1, 4), i, vList(vEnum(0), vEnum(7)))), api.ErrTag, 40)
	isNot(t, old, "P", encoded(t, now, "P", vStruct(tags(1, 9), i, vUnion(6, q))), api.ErrTag, 24)
	is(t, old, "O", encoded(t, now, "O", vStruct(tags(7), vEnum(7))), vStruct(nil), 8)
}

// later are declarations that take the place of these: rows that were options went, others came.
func (r *chance) later(l []api.Decl) []api.Decl {
	var next []api.Decl
	for _, x := range l {
		y := decl(x.Kind, x.Name)
		taken := map[int]bool{}
		for _, f := range x.Fields {
			taken[f.Tag] = true
			if x.Kind == api.DStruct && f.Type.Kind == api.TOpt && r.Intn(2) == 0 {
				continue
			}
			f.Name += "x"
			y.Fields = append(y.Fields, f)
		}
		for range r.Intn(3) {
			tag, of := 1+r.Intn(255), []api.Type{tInt, tText, list(tBool), named(l[r.Intn(len(l))].Name)}[r.Intn(4)]
			if x.Kind == api.DStruct {
				of = opt(of)
			}
			if x.Kind == api.DEnum {
				of = api.Type{}
			}
			if !taken[tag] {
				y.Fields = append(y.Fields, field(tag, fmt.Sprint("g", tag), of))
			}
			taken[tag] = true
		}
		r.Shuffle(len(y.Fields), func(i, j int) { y.Fields[i], y.Fields[j] = y.Fields[j], y.Fields[i] })
		next = append(next, y)
	}
	next = append(next, decl(api.DStruct, "X"))
	r.Shuffle(len(next), func(i, j int) { next[i], next[j] = next[j], next[i] })
	return next
}

// 18.2: the same by chance.
func TestPlaceByChance(t *testing.T) {
	n := 0
	for seed := range int64(600) {
		r := &chance{Rand: rand.New(rand.NewSource(seed))}
		o := r.record(6)
		name := o.x.Name
		old, l := of(t, r.l...), r.later(r.l)
		now := of(t, l...)
		if e, at := compat.Check(old, now); e != api.OK {
			t.Fatal(e, at)
		}
		for range 8 {
			v, b := o.draw()
			w := without(r.l, l, o.x, v)
			is(t, old, name, b, v, value.Size(v))
			is(t, now, name, b, w, value.Size(w))
			if !value.Same(v, w) {
				n++
			}
		}
	}
	if n < 1000 {
		t.Fatal(n)
	}
}

// apart tells whether two texts share no memory.
func apart(a, b string) bool {
	p, q := uintptr(unsafe.Pointer(unsafe.StringData(a))), uintptr(unsafe.Pointer(unsafe.StringData(b)))
	return len(a) == 0 || len(b) == 0 || p+uintptr(len(a)) <= q || q+uintptr(len(b)) <= p
}

// all are all values of a tree.
func all(v api.Value) []api.Value {
	l := []api.Value{v}
	for _, x := range v.Items {
		l = append(l, all(x)...)
	}
	return l
}

// R4: what is told is own memory: no piece of the bytes, and nothing of what was told ahead, or of what stands beside it; the bytes stay as they were, and what was told does, whatever becomes of them.
func TestOwnMemory(t *testing.T) {
	d, structs := asked(t)
	for name, bytes := range structs {
		for _, s := range bytes {
			b := []byte(s)
			v, _, e := Decode(d, name, unsafe.String(unsafe.SliceData(b), len(b)), math.MaxInt)
			w, _, e2 := Decode(d, name, unsafe.String(unsafe.SliceData(b), len(b)), math.MaxInt)
			want, _, _ := Decode(d, name, s, math.MaxInt)
			if e != api.OK || e2 != api.OK || string(b) != s {
				t.Fatal(name, []byte(s), e, e2)
			}
			for _, x := range all(v) {
				if !apart(x.Text, unsafe.String(unsafe.SliceData(b), len(b))) || slices.ContainsFunc(all(w), func(y api.Value) bool { return !apart(x.Text, y.Text) }) {
					t.Fatal(name, []byte(s))
				}
			}
			clear(b)
			if !value.Same(v, want) || !value.Same(w, want) {
				t.Fatal(name, []byte(s))
			}
			spoil(v)
			if again, _, _ := Decode(d, name, s, math.MaxInt); !value.Same(w, want) || !value.Same(again, want) {
				t.Fatal(name, []byte(s))
			}
			// No list of one tree lies in another one's memory, behind its end either.
			seen := map[*api.Value]bool{}
			for _, x := range all(w) {
				for i := range x.Items[:cap(x.Items)] {
					if at := &x.Items[:cap(x.Items)][i]; seen[at] {
						t.Fatal(name, []byte(s))
					} else {
						seen[at] = true
					}
				}
			}
		}
	}
}

// spoil makes everything in a tree's lists another thing, behind their ends, too.
func spoil(v api.Value) {
	for i := range v.Tags[:cap(v.Tags)] {
		v.Tags[:cap(v.Tags)][i] = 77
	}
	for i := range v.Items[:cap(v.Items)] {
		spoil(v.Items[:cap(v.Items)][i])
		v.Items[:cap(v.Items)][i] = vText("spoilt")
	}
}

// R4: a schema stays as it was, whatever was decoded by it, and what was told of it ahead, too.
func TestSchemaStays(t *testing.T) {
	d, structs := asked(t)
	ahead, rows := d.Decls(), d.Rows("K")
	for name, bytes := range structs {
		for _, b := range bytes {
			v, _, _ := Decode(d, name, b, math.MaxInt)
			spoil(v)
		}
	}
	if !reflect.DeepEqual(d.Decls(), ahead) || !reflect.DeepEqual(d.Rows("K"), rows) {
		t.Fatal(d.Decls())
	}
}

// R4: nothing is kept from call to call: schemas of rows of the same names and tags have each their own.
func TestNotKept(t *testing.T) {
	a, b, c := read(t, "struct P { 1 a: int; }"), read(t, "struct P { 1 a: uint; 2 b: E?; } enum E { 1 A; }"), read(t, "struct P { 2 b: text?; } enum E { 2 A; }")
	for range 3 {
		told(t, a, "P", "\x02\x03\x04\x01", 16, vStruct(tags(1), vInt(-2)), 16, api.OK)
		told(t, b, "P", "\x02\x03\x04\x01", 24, vStruct(tags(1, 2), vUint(3), vEnum(1)), 24, api.OK)
		told(t, b, "P", "\x02\x03\x04\x01", 23, api.Value{}, 0, api.ErrFull)
		told(t, c, "P", "\x02\x03\x04\x01", 24, api.Value{}, 0, api.ErrKind)
		told(t, c, "P", "\x02\x03", 8, vStruct(nil), 8, api.OK)
		told(t, nil, "P", "\x02\x03", 8, api.Value{}, 0, api.ErrType)
	}
}

// answer is what is told, and the value's text.
type answer struct {
	v    string
	cost int
	e    api.Errno
}

// questions are some that may be asked of a schema of asked's declarations; and that one.
func questions(t *testing.T) (*desc.Desc, []func(d *desc.Desc) answer) {
	t.Helper()
	d, structs := asked(t)
	var l []func(d *desc.Desc) answer
	for _, name := range []string{"T", "P", "O", "R", "K", "U", "E", "Z"} {
		bytes := append(slices.Clone(structs[name]), "", "\x02\x08\x07\x01\xff", "\x03\x00", "\x05\x01", "\x02\x08\x02\x08", "\x0c\x80\x00")
		for _, b := range bytes {
			for _, most := range []int{-1, 8, 16, 60, 1000} {
				l = append(l, func(d *desc.Desc) answer {
					v, n, e := Decode(d, name, b, most)
					return answer{value.Text(v), n, e}
				})
			}
		}
	}
	return d, l
}

// answers are what is answered, by schemas that were asked for nothing ahead.
func answers(t *testing.T) []answer {
	t.Helper()
	d, l := questions(t)
	var r []answer
	for _, ask := range l {
		r = append(r, ask(of(t, d.Decls()...)))
	}
	return r
}

// R5: the same is answered each time, whichever is asked first.
func TestAnyOrder(t *testing.T) {
	want := answers(t)
	r := rand.New(rand.NewSource(18))
	for range 60 {
		d, all := questions(t)
		for _, i := range append(r.Perm(len(all)), r.Perm(len(all))...) {
			if got := all[i](d); got != want[i] {
				t.Fatalf("%d: %v, not %v", i, got, want[i])
			}
		}
	}
}

// R5: whoever asks at the same time is answered the same.
func TestAtOnce(t *testing.T) {
	want := answers(t)
	for range 20 {
		d, all := questions(t)
		got := make([][]answer, 8)
		var wait sync.WaitGroup
		for i := range got {
			wait.Go(func() {
				for j := range all {
					got[i] = append(got[i], all[(i*7+j)%len(all)](d))
				}
			})
		}
		wait.Wait()
		for i, l := range got {
			for j, a := range l {
				if a != want[(i*7+j)%len(all)] {
					t.Fatal(i, j, a)
				}
			}
		}
	}
}

// R1: structs of many items, of long texts, and of much that is skipped; and what is wrong behind all of it.
func TestWide(t *testing.T) {
	d := read(t, "struct P { 1 l: list<P>?; 2 m: map<int,P>?; 3 t: text?; 4 e: list<E>?; 5 u: U?; } union U { 1 p: P; 2 n: int; } enum E { 0 A; 300 B; }")
	const n = 100000
	l, m, e := vList(), vMap(), vList()
	var inList, inMap, inEnums strings.Builder
	for i := range n {
		x, in := vStruct(tags(5), vUnion(2, vInt(int64(i)))), "\x0b"+spanned("\x04"+turned(int64(i)))+"\x0d\x02zz"
		l.Items, m.Items, e.Items = append(l.Items, x), append(m.Items, vInt(int64(i)), x), append(e.Items, vEnum(300))
		inList.WriteString(spanned(in))
		inMap.WriteString(turned(int64(i)) + spanned(in))
		inEnums.WriteString("\xac\x02")
	}
	text := strings.Repeat("\u20ac", 1<<20)
	for _, o := range []struct {
		b string
		v api.Value
	}{
		{"\x03" + spanned(inList.String()), vStruct(tags(1), l)},
		{"\x05" + spanned(inMap.String()), vStruct(tags(2), m)},
		{"\x07" + spanned(text), vStruct(tags(3), vText(text))},
		{"\x09" + spanned(inEnums.String()), vStruct(tags(4), e)},
		{"\xff\x03" + spanned(text), vStruct(nil)},
	} {
		cost := value.Size(o.v)
		told(t, d, "P", o.b, cost, o.v, cost, api.OK)
		told(t, d, "P", o.b, cost-1, api.Value{}, 0, api.ErrFull)
		told(t, d, "P", o.b+"\x80", cost, api.Value{}, 0, api.ErrShort)
		told(t, d, "P", o.b[:len(o.b)-1], cost, api.Value{}, 0, api.ErrShort)
	}
}

// R1: any bytes, by any name: no panic leaves the call.
func TestAnyBytesByChance(t *testing.T) {
	d, structs := asked(t)
	l := d.Decls()
	r := rand.New(rand.NewSource(181))
	for range 20000 {
		b := make([]byte, r.Intn(24))
		for i := range b {
			b[i] = byte(r.Intn(256)) >> r.Intn(8)
		}
		for name := range structs {
			held(t, d, l, name, string(b))
		}
	}
}

func FuzzDecode(f *testing.F) {
	for seed := range int64(20) {
		f.Add(seed, "P", "\x02\x08\x07\x01a", int(seed*3))
	}
	f.Fuzz(func(t *testing.T, seed int64, name, b string, most int) {
		d, _ := asked(t)
		h := held(t, d, d.Decls(), name, b)
		v, n, e := h.answer(most)
		told(t, d, name, b, most, v, n, e)
		heldChance(t, seed, map[api.Errno]int{})
	})
}
