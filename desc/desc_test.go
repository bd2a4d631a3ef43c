package desc

import (
	"math"
	"math/rand"
	"reflect"
	"slices"
	"strconv"
	"strings"
	"sync"
	"testing"
	"unsafe"

	"concourse/api"
	"concourse/check"
	"concourse/parse"
)

// The types that a word alone tells, in short.
var (
	tBool  = api.Type{Kind: api.TBool}
	tInt   = api.Type{Kind: api.TInt}
	tUint  = api.Type{Kind: api.TUint}
	tText  = api.Type{Kind: api.TText}
	tBytes = api.Type{Kind: api.TBytes}
)

func named(s string) api.Type      { return api.Type{Kind: api.TNamed, Name: s} }
func list(x api.Type) api.Type     { return api.Type{Kind: api.TList, Of: []api.Type{x}} }
func table(k, v api.Type) api.Type { return api.Type{Kind: api.TMap, Of: []api.Type{k, v}} }
func opt(x api.Type) api.Type      { return api.Type{Kind: api.TOpt, Of: []api.Type{x}} }

func field(n int, s string, x api.Type) api.Field { return api.Field{Tag: n, Name: s, Type: x} }
func value(n int, s string) api.Field             { return api.Field{Tag: n, Name: s} }

func method(n int, name, in, out string) api.Method {
	return api.Method{Tag: n, Name: name, In: in, Out: out}
}

func oneWay(n int, name, in, out string) api.Method {
	return api.Method{Tag: n, Name: name, In: in, Out: out, OneWay: true}
}

func decl(kind int, name string, l ...api.Field) api.Decl {
	return api.Decl{Kind: kind, Name: name, Fields: l}
}

func service(name string, l ...api.Method) api.Decl {
	return api.Decl{Kind: api.DService, Name: name, Methods: l}
}

// read is the schema of a text that is one, and its declarations.
func read(t *testing.T, s string) (*Desc, []api.Decl) {
	t.Helper()
	l, f := parse.Parse(s)
	if f != (api.Fault{}) {
		t.Fatalf("%q: %v", s, f)
	}
	d, f := Read(s)
	if d == nil || f != (api.Fault{}) {
		t.Fatalf("Read(%q) = %v, %v", s, d, f)
	}
	held(t, d, l)
	return d, l
}

// made is the schema of declarations that may be.
func made(t *testing.T, l ...api.Decl) *Desc {
	t.Helper()
	ahead := wholeDecls(l)
	d, f := Of(l)
	if d == nil || f != (api.Fault{}) {
		t.Fatalf("Of(%v) = %v, %v", l, d, f)
	}
	held(t, d, l)
	if now := wholeDecls(l); !reflect.DeepEqual(now, ahead) {
		t.Fatalf("%v: they were %v ahead", now, ahead)
	}
	return d
}

// refused asks whether declarations are no schema, just for this fault.
func refused(t *testing.T, want api.Fault, l ...api.Decl) {
	t.Helper()
	ahead := wholeDecls(l)
	if d, f := Of(l); d != nil || f != want {
		t.Fatalf("Of(%v) = %v, %v, not %v", l, d, f, want)
	}
	if now := wholeDecls(l); !reflect.DeepEqual(now, ahead) {
		t.Fatalf("%v: they were %v ahead", now, ahead)
	}
}

// isRows asks whether these are the names of a declaration's rows, in order, a blank between each two.
func isRows(t *testing.T, d *Desc, name, want string) {
	t.Helper()
	var l []string
	for _, f := range d.Rows(name) {
		l = append(l, f.Name)
	}
	if s := strings.Join(l, " "); s != want {
		t.Fatalf("Rows(%q) are %q, not %q", name, s, want)
	}
}

// isRow asks whether the row of a tag is just this one.
func isRow(t *testing.T, d *Desc, name string, want api.Field) {
	t.Helper()
	if f, ok := d.Row(name, want.Tag); !ok || !reflect.DeepEqual(bareField(f), bareField(want)) {
		t.Fatalf("Row(%q, %d) = %v, %v, not %v, true", name, want.Tag, f, ok, want)
	}
}

// noRow asks whether there are no rows of some tags, and nothing of any.
func noRow(t *testing.T, d *Desc, name string, tags ...int) {
	t.Helper()
	for _, tag := range tags {
		if f, ok := d.Row(name, tag); ok || !reflect.DeepEqual(f, api.Field{}) {
			t.Fatalf("Row(%q, %d) = %v, %v, not nothing, false", name, tag, f, ok)
		}
	}
}

// isMethod asks whether a service's method is just this one.
func isMethod(t *testing.T, d *Desc, service string, want api.Method) {
	t.Helper()
	if m, ok := d.Method(service, want.Name); !ok || m != want {
		t.Fatalf("Method(%q, %q) = %v, %v, not %v, true", service, want.Name, m, ok, want)
	}
}

// noMethod asks whether there are no such methods, and nothing of any.
func noMethod(t *testing.T, d *Desc, service string, methods ...string) {
	t.Helper()
	for _, method := range methods {
		if m, ok := d.Method(service, method); ok || m != (api.Method{}) {
			t.Fatalf("Method(%q, %q) = %v, %v, not nothing, false", service, method, m, ok)
		}
	}
}

// isWire asks whether a value of a type is written so.
func isWire(t *testing.T, d *Desc, want int, x api.Type) {
	t.Helper()
	if n := d.Wire(x); n != want {
		t.Fatalf("Wire(%v) = %d, not %d", x, n, want)
	}
}

// The chapter's example.
func TestExample(t *testing.T) {
	d, _ := read(t, "struct P { 2 b: int; 1 a: text; }")
	isRows(t, d, "P", "a b")
}

const schemaText = "struct P { 9 z: E; 2 b: int?; 5 a: list<int>; 255 y: map<E,list<U>>; } union U { 7 u: U; 1 n: uint; 30 p: P; } enum E { 3 B; 0 A; 9999 Z; }" +
	" service S { 2 get(P): Q; oneway 1 put(Q): P; } struct Q { } service T { 8 get(Q): Q; } struct R { 1 a: bool; 2 b: text; 3 c: bytes; }"

// 13.1, 13.2: a schema of all kinds of declarations, of a text and of declarations: its kinds, its rows, its methods.
func TestSchema(t *testing.T) {
	d, l := read(t, schemaText)
	for _, d := range []*Desc{d, made(t, l...)} {
		for name, kind := range map[string]int{"P": api.DStruct, "U": api.DUnion, "E": api.DEnum, "S": api.DService, "Q": api.DStruct, "T": api.DService, "R": api.DStruct, "Z": 0, "": 0, "a": 0, "get": 0, "p": 0, "P ": 0} {
			if k := d.Kind(name); k != kind {
				t.Fatalf("Kind(%q) = %d, not %d", name, k, kind)
			}
		}
		for name, rows := range map[string]string{"P": "b a z y", "U": "n u p", "E": "A B Z", "S": "", "Q": "", "T": "", "R": "a b c", "Z": "", "": "", "a": "", "get": "", "p": ""} {
			isRows(t, d, name, rows)
		}
		isRow(t, d, "P", field(2, "b", opt(tInt)))
		isRow(t, d, "P", field(5, "a", list(tInt)))
		isRow(t, d, "P", field(9, "z", named("E")))
		isRow(t, d, "P", field(255, "y", table(named("E"), list(named("U")))))
		noRow(t, d, "P", 0, 1, 3, 4, 6, 7, 8, 10, 254, 256, -2, -255, 7+1<<8, 1<<32+2, math.MaxInt, math.MinInt)
		isRow(t, d, "U", field(1, "n", tUint))
		isRow(t, d, "U", field(7, "u", named("U")))
		isRow(t, d, "U", field(30, "p", named("P")))
		noRow(t, d, "U", 0, 2, 5, 6, 8, 29, 31)
		isRow(t, d, "E", value(0, "A"))
		isRow(t, d, "E", value(3, "B"))
		isRow(t, d, "E", value(9999, "Z"))
		noRow(t, d, "E", -1, 1, 2, 4, 9998, 10000)
		for _, name := range []string{"S", "Q", "T", "Z", "", "p", "get"} {
			noRow(t, d, name, -1, 0, 1, 2, 3, 5, 7, 9)
		}
		isMethod(t, d, "S", method(2, "get", "P", "Q"))
		isMethod(t, d, "S", oneWay(1, "put", "Q", "P"))
		isMethod(t, d, "T", method(8, "get", "Q", "Q"))
		noMethod(t, d, "S", "", "Get", "ge", "gett", "S", "P", "Q", "a")
		noMethod(t, d, "T", "", "put", "T")
		for _, name := range []string{"P", "U", "E", "Q", "R", "Z", "", "s", "S "} {
			noMethod(t, d, name, "get", "put", "", "a", "n", "A")
		}
		if k := d.Decls(); !reflect.DeepEqual(bare(k), bare(l)) || k[1].At != strings.Index(schemaText, "union") {
			t.Fatalf("%v, not %v", k, l)
		}
	}
}

// orders calls f with all orders of the numbers from at on.
func orders(l []int, at int, f func([]int)) {
	if at == len(l) {
		f(l)
		return
	}
	for i := at; i < len(l); i++ {
		l[at], l[i] = l[i], l[at]
		orders(l, at+1, f)
		l[at], l[i] = l[i], l[at]
	}
}

// ofTags is a declaration of a kind whose fields have these tags, in this order.
func ofTags(kind int, tags ...int) api.Decl {
	d := decl(kind, "X")
	for _, tag := range tags {
		d.Fields = append(d.Fields, field(tag, "n"+strconv.Itoa(tag), tInt))
		if kind == api.DEnum {
			d.Fields[len(d.Fields)-1].Type = api.Type{}
		}
	}
	return d
}

// isRising asks whether a declaration's rows are those of these tags, in this order.
func isRising(t *testing.T, d *Desc, name string, tags ...int) {
	t.Helper()
	rows := d.Rows(name)
	if len(rows) != len(tags) {
		t.Fatalf("%d rows of %q, not %d", len(rows), name, len(tags))
	}
	for i, f := range rows {
		if f.Tag != tags[i] || f.Name != "n"+strconv.Itoa(f.Tag) {
			t.Fatalf("Rows(%q) = %v, not of %v", name, rows, tags)
		}
	}
}

// 13.2, 13.4: rows whose tags stand in any order.
func TestOrders(t *testing.T) {
	for kind := 1; kind <= 4; kind++ {
		for n := 1; n <= 5; n++ {
			orders([]int{1, 2, 9, 10, 200}[:n], 0, func(tags []int) {
				isRising(t, made(t, ofTags(kind, tags...)), "X", []int{1, 2, 9, 10, 200}[:n]...)
			})
		}
	}
	orders([]int{0, 1, 9998, 9999, 255, 256}, 0, func(tags []int) {
		d, f := Of([]api.Decl{ofTags(api.DEnum, tags...)})
		if f != (api.Fault{}) {
			t.Fatal(f)
		}
		isRising(t, d, "X", 0, 1, 255, 256, 9998, 9999)
	})
}

// 13.2, 13.4: all tags at once, rising, falling, and in steps, of each kind of declaration.
func TestAllTags(t *testing.T) {
	for kind := 1; kind <= 4; kind++ {
		least, n := 1, 255
		if kind == api.DEnum {
			least, n = 0, 256
		}
		var want []int
		for i := range n {
			want = append(want, least+i)
		}
		for _, step := range []int{1, -1, 2, 7, 101, 127, -13} {
			var tags []int
			for i := range n {
				// n is 3*5*17 or 2^8: a step of 2 does not come to all of the latter.
				tags = append(tags, least+((i*step)%n+n)%n)
			}
			if k := slices.Sorted(slices.Values(tags)); !slices.Equal(k, want) {
				continue
			}
			x := ofTags(kind, tags...)
			d, f := Of([]api.Decl{decl(api.DStruct, "A"), x})
			if f != (api.Fault{}) {
				t.Fatal(f)
			}
			isRising(t, d, "X", want...)
			for _, y := range x.Fields {
				isRow(t, d, "X", y)
			}
			noRow(t, d, "X", least-1, least-2, least+n, least+n+1, -1, 9999, 1<<32+1)
			noRow(t, d, "A", want...)
		}
	}
}

// 13.2: each tag alone, at the bounds and between; just that one is a row's.
func TestOneTag(t *testing.T) {
	for kind := 1; kind <= 4; kind++ {
		for tag := range 256 {
			if tag == 0 && kind != api.DEnum {
				continue
			}
			x := ofTags(kind, tag)
			d, f := Of([]api.Decl{x})
			if f != (api.Fault{}) {
				t.Fatal(f)
			}
			isRising(t, d, "X", tag)
			isRow(t, d, "X", x.Fields[0])
			for other := -2; other < 260; other++ {
				if other != tag {
					noRow(t, d, "X", other)
				}
			}
		}
	}
}

// 13.2: the greatest and the least tags, of fields, of values and of methods; one beyond is no schema.
func TestTagEdges(t *testing.T) {
	for kind := 1; kind <= 4; kind++ {
		least, most := 1, 255
		if kind == api.DEnum {
			least, most = 0, 9999
		}
		d := made(t, ofTags(kind, most, least))
		isRising(t, d, "X", least, most)
		d = made(t, ofTags(kind, least, most))
		isRising(t, d, "X", least, most)
		for _, tag := range []int{least - 1, most + 1, math.MaxInt, math.MinInt} {
			x := ofTags(kind, least, tag)
			x.At = 40
			refused(t, api.Fault{Err: api.ErrTag, At: 40}, x)
		}
	}
	l := []api.Decl{service("S", method(255, "a", "P", "P"), oneWay(1, "b", "P", "P")), decl(api.DStruct, "P")}
	d := made(t, l...)
	isMethod(t, d, "S", l[0].Methods[0])
	isMethod(t, d, "S", l[0].Methods[1])
}

// 13.2: the values of an enum from 0 on, as many as the language lets be, rising and falling.
func TestValuesFromNought(t *testing.T) {
	for n := 1; n <= api.MaxFields; n++ {
		var up, down strings.Builder
		var want []int
		for i := range n {
			up.WriteString(strconv.Itoa(i) + " n" + strconv.Itoa(i) + "; ")
			down.WriteString(strconv.Itoa(n-1-i) + " n" + strconv.Itoa(n-1-i) + "; ")
			want = append(want, i)
		}
		for _, s := range []string{up.String(), down.String()} {
			d, _ := read(t, "enum X { "+s+"}")
			isRising(t, d, "X", want...)
			noRow(t, d, "X", -1, n, n+1)
			isWire(t, d, 0, named("X"))
		}
	}
}

// 13.1, 13.2: no declarations at all, and texts without one.
func TestNothing(t *testing.T) {
	l := []api.Decl{decl(api.DEnum, "E", value(0, "A"))}
	ds := []*Desc{made(t), made(t, l[:0]...), made(t, l[1:]...), nil}
	for _, s := range []string{"", " ", "\n\t\r ", "// nothing", "// enum E { 0 A; }\n"} {
		d, _ := read(t, s)
		ds = append(ds, d)
	}
	for _, d := range ds {
		if len(d.Decls()) != 0 {
			t.Fatal(d.Decls())
		}
		for _, name := range []string{"", "E", "A", "\x00"} {
			if d.Kind(name) != 0 || len(d.Rows(name)) != 0 {
				t.Fatalf("%q: %d, %v", name, d.Kind(name), d.Rows(name))
			}
			noRow(t, d, name, 0, 1, -1, 255)
			noMethod(t, d, name, "", "get", name)
			isWire(t, d, 1, named(name))
			isWire(t, d, 1, opt(named(name)))
		}
		for _, o := range ds {
			if !d.Same(o) {
				t.Fatal("not the same nothing")
			}
		}
		if o := made(t, l...); d.Same(o) || o.Same(d) {
			t.Fatal("something as nothing")
		}
	}
}

// R1: each method of a nil schema.
func TestNil(t *testing.T) {
	var none *Desc
	held(t, none, nil)
	if none.Decls() != nil || none.Rows("P") != nil || none.Rows("") != nil {
		t.Fatal("something of nil")
	}
	for kind := -1; kind <= 11; kind++ {
		want := 1
		if kind == api.TBool || kind == api.TInt || kind == api.TUint {
			want = 0
		}
		for _, name := range []string{"", "E"} {
			x := api.Type{Kind: kind, Name: name}
			isWire(t, none, want, x)
			isWire(t, none, want, opt(x))
		}
	}
	d, _ := read(t, schemaText)
	empty, _ := read(t, "")
	if none.Same(d) || d.Same(none) || !none.Same(none) || !none.Same(empty) || !empty.Same(none) {
		t.Fatal("nil is the same as others")
	}
}

// 13.2: declarations without rows, of both kinds that may have none, whose lists are nil or of length 0.
func TestNoRows(t *testing.T) {
	for _, kind := range []int{api.DStruct, api.DService} {
		for _, x := range []api.Decl{decl(kind, "X"), {Kind: kind, Name: "X", Fields: []api.Field{}, Methods: []api.Method{}}} {
			d := made(t, x)
			if d.Kind("X") != kind || len(d.Rows("X")) != 0 || !d.Same(made(t, decl(kind, "X"))) {
				t.Fatal(x)
			}
			noRow(t, d, "X", 0, 1, -1)
			noMethod(t, d, "X", "", "get")
		}
	}
	for _, kind := range []int{api.DUnion, api.DEnum} {
		refused(t, api.Fault{Err: api.ErrNone, At: 3}, api.Decl{Kind: kind, Name: "X", At: 3})
	}
}

// 13.2: what a declaration has beside its own rows is told, too: a service's fields; methods are no service's, if their declaration is none.
func TestBeside(t *testing.T) {
	for kind := 1; kind <= 4; kind++ {
		x := decl(kind, "X", field(9, "b", tInt), field(4, "a", list(tText)))
		x.Methods = []api.Method{method(2, "get", "P", "P")}
		d := made(t, decl(api.DStruct, "P"), x)
		isRows(t, d, "X", "a b")
		isRow(t, d, "X", x.Fields[1])
		noRow(t, d, "X", 2)
		if kind == api.DService {
			isMethod(t, d, "X", x.Methods[0])
		} else {
			noMethod(t, d, "X", "get")
		}
	}
}

// 13.1, 13.2: any text may be a name.
func TestAnyNames(t *testing.T) {
	strange := []string{"", " ", "a b", "int", "struct", "9", "\x00", "\xff", "\u20ac", strings.Repeat("x", 300), "P", "p", "P "}
	for _, s := range strange {
		l := []api.Decl{decl(api.DEnum, s, value(0, s)), decl(api.DStruct, s+"2", field(1, s, named(s))), service(s+"3", method(1, s, s+"2", s+"2"))}
		d := made(t, l...)
		isRow(t, d, s, value(0, s))
		isRow(t, d, s+"2", l[1].Fields[0])
		isMethod(t, d, s+"3", l[2].Methods[0])
		isWire(t, d, 0, named(s))
	}
}

// isFault asks whether a text is no schema, just for this fault.
func isFault(t *testing.T, s string, want api.Fault) {
	t.Helper()
	if d, f := Read(s); d != nil || f != want {
		t.Fatalf("Read(%q) = %v, %v, not %v", s, d, f, want)
	}
}

// 13.1: texts that are not parsed: each of the faults of lex and parse, with their places.
func TestParseFaults(t *testing.T) {
	decls, fields := "", "struct P { "
	for i := range api.MaxDecls {
		decls += "struct P" + strconv.Itoa(i) + " { } "
	}
	for i := range api.MaxFields {
		fields += strconv.Itoa(i+1) + " a" + strconv.Itoa(i) + ": int; "
	}
	deep := "struct P { 1 a: " + strings.Repeat("list<", api.MaxDeep+1)
	for _, r := range []struct {
		text string
		err  api.Errno
		at   int
	}{
		{"struct P { } //" + strings.Repeat(" ", api.MaxBody), api.ErrLong, 0},
		{strings.Repeat("#", api.MaxBody+1), api.ErrLong, 0},
		{"struct P { } #", api.ErrToken, 13},
		{"struct P { 1 a: Z; } \x80", api.ErrToken, 21},
		{" struct abcdefghijklmnopq { }", api.ErrName, 8},
		{"enum E { 01 A; }", api.ErrForm, 9},
		{"enum E { 10000 A; }", api.ErrLong, 9},
		{decls + "struct Q { }", api.ErrLong, len(decls)},
		{fields + "17 b: int; }", api.ErrLong, len(fields)},
		{deep + "int" + strings.Repeat(">", api.MaxDeep+1) + "; }", api.ErrDeep, len(deep)},
		{"struct", api.ErrToken, 6},
		{"struct P { 1 x int; }", api.ErrToken, 15},
		{"struct P { 1 x: int?\n", api.ErrToken, 21},
		{"union union { }", api.ErrToken, 6},
		{"service S { 1 get(int): P; }", api.ErrToken, 18},
		{"enum E { 0 A: int; }", api.ErrToken, 12},
		{"P", api.ErrToken, 0},
		// What is not parsed is told ahead of what may not be.
		{"union U { } struct U { 0 a: Z; } }", api.ErrToken, 33},
	} {
		isFault(t, r.text, api.Fault{Err: r.err, At: r.at})
		if _, f := parse.Parse(r.text); f.Err != r.err || f.At != r.at {
			t.Fatalf("%q: %v", r.text, f)
		}
	}
	for _, s := range []string{decls, fields + "}", strings.Replace(deep, "list<", "", 1) + "int" + strings.Repeat(">", api.MaxDeep) + "; }", "struct P { } //" + strings.Repeat(" ", api.MaxBody-15)} {
		read(t, s)
	}
}

// 13.1: texts that are parsed, but are no schema: each of check's faults, at the declaration's place.
func TestCheckFaults(t *testing.T) {
	for s, e := range map[string]api.Errno{
		"struct Q { } enum Q { 0 A; }":             api.ErrTwice,
		"struct Q { 0 a: int; }":                   api.ErrTag,
		"struct Q { 256 a: int; }":                 api.ErrTag,
		"service Q { 0 a(P): P; }":                 api.ErrTag,
		"struct Q { 1 a: int; 1 b: int; }":         api.ErrTwice,
		"union Q { 1 a: int; 2 a: int; }":          api.ErrTwice,
		"enum Q { 0 A; 0 B; }":                     api.ErrTwice,
		"service Q { 1 a(P): P; 2 a(P): P; }":      api.ErrTwice,
		"struct Q { 1 a: Z; }":                     api.ErrName,
		"struct Q { 1 a: S; }":                     api.ErrType,
		"struct Q { 1 a: list<int?>; }":            api.ErrType,
		"struct Q { 1 a: map<bytes,int>; }":        api.ErrType,
		"union Q { 1 a: int?; }":                   api.ErrType,
		"service Q { 1 a(Z): P; }":                 api.ErrName,
		"service Q { 1 a(P): E; }":                 api.ErrType,
		"union Q { }":                              api.ErrNone,
		"enum Q { }":                               api.ErrNone,
		"struct Q { 1 a: Q; }":                     api.ErrDeep,
		"union Q { 1 a: R; } struct R { 1 q: Q; }": api.ErrDeep,
	} {
		text := " struct O { }\n" + s + " struct P { } enum E { 0 A; } service S { }"
		at := 14
		if strings.HasPrefix(s, "struct Q { } ") {
			at += len("struct Q { } ")
		}
		isFault(t, text, api.Fault{Err: e, At: at})
		l, f := parse.Parse(text)
		if f != (api.Fault{}) {
			t.Fatal(f)
		}
		refused(t, api.Fault{Err: e, At: at}, l...)
	}
}

// 13.1: declarations that may not be, as no text tells them: their faults, at the place that they tell, whichever that is.
func TestOddFaults(t *testing.T) {
	for _, at := range []int{0, 1, -1, 77, math.MaxInt, math.MinInt} {
		for _, r := range []struct {
			d   api.Decl
			err api.Errno
		}{
			{decl(0, "X"), api.ErrKind}, {decl(5, "X"), api.ErrKind}, {decl(-1, "X", field(1, "a", tInt)), api.ErrKind},
			{decl(api.DStruct, "O"), api.ErrTwice}, {decl(api.DStruct, "X", field(1, "a", api.Type{})), api.ErrType},
			{decl(api.DStruct, "X", field(1, "a", api.Type{Kind: api.TInt, Of: []api.Type{tInt}})), api.ErrType},
			{decl(api.DStruct, "X", field(1, "a", named("Z"))), api.ErrName}, {decl(api.DUnion, "X"), api.ErrNone},
			{decl(api.DUnion, "X", field(1, "a", named("X"))), api.ErrDeep},
			{api.Decl{Kind: api.DEnum, Name: "X", Fields: []api.Field{value(1, "a")}, Methods: []api.Method{method(2, "b", "Z", "Z")}}, api.ErrName},
		} {
			r.d.At = at
			refused(t, api.Fault{Err: r.err, At: at}, api.Decl{Kind: api.DStruct, Name: "O", At: 5}, r.d, api.Decl{Kind: api.DStruct, Name: "P", At: 6})
		}
	}
}

// 13.3: types of each kind, formed well or wrongly: how they are written hangs on their Kind, of names on what they are, and of a TOpt of one on that one.
func TestWire(t *testing.T) {
	d, _ := read(t, "struct P { } union U { 1 a: int; } enum E { 0 A; } service S { }")
	for _, r := range []struct {
		x    api.Type
		want int
	}{
		{tBool, 0}, {tInt, 0}, {tUint, 0}, {tText, 1}, {tBytes, 1},
		{named("E"), 0}, {named("P"), 1}, {named("U"), 1}, {named("S"), 1}, {named("Z"), 1}, {named(""), 1}, {named("e"), 1}, {named("A"), 1},
		{list(tInt), 1}, {list(named("E")), 1}, {table(tInt, tInt), 1}, {table(named("E"), named("E")), 1},
		{api.Type{}, 1}, {api.Type{Kind: -1}, 1}, {api.Type{Kind: 10}, 1}, {api.Type{Kind: 1<<32 + 1}, 1}, {api.Type{Kind: math.MinInt}, 1}, {api.Type{Kind: math.MaxInt}, 1},
		{api.Type{Name: "E"}, 1}, {api.Type{Kind: api.TText, Name: "E"}, 1}, {api.Type{Kind: api.TList, Name: "E"}, 1}, {api.Type{Of: []api.Type{tInt}}, 1},
		{api.Type{Kind: api.TInt, Name: "P"}, 0}, {api.Type{Kind: api.TBool, Of: []api.Type{tText}}, 0}, {api.Type{Kind: api.TUint, Name: "Z", Of: []api.Type{tText, tText}}, 0},
		{api.Type{Kind: api.TNamed, Name: "E", Of: []api.Type{tText}}, 0}, {api.Type{Kind: api.TNamed, Name: "P", Of: []api.Type{tInt}}, 1},
		{api.Type{Kind: api.TText, Of: []api.Type{tInt}}, 1}, {api.Type{Kind: api.TList}, 1}, {api.Type{Kind: api.TMap, Of: []api.Type{tInt}}, 1}, {api.Type{Kind: 99, Of: []api.Type{tInt}}, 1},
	} {
		isWire(t, d, r.want, r.x)
		isWire(t, d, r.want, opt(r.x))
		isWire(t, d, r.want, opt(opt(opt(r.x))))
		isWire(t, d, r.want, api.Type{Kind: api.TOpt, Name: "P", Of: []api.Type{r.x}})
		isWire(t, d, 1, list(r.x))
		isWire(t, d, 1, table(r.x, r.x))
		isWire(t, d, 1, api.Type{Kind: api.TOpt, Of: []api.Type{r.x, r.x}})
		isWire(t, d, 1, api.Type{Kind: api.TOpt, Of: []api.Type{r.x, tInt, tInt}})
		isWire(t, d, 1, opt(api.Type{Kind: api.TOpt, Of: []api.Type{r.x, r.x}}))
		isWire(t, d, 1, opt(list(r.x)))
		isWire(t, d, 1, list(opt(r.x)))
	}
	for _, x := range []api.Type{{Kind: api.TOpt}, {Kind: api.TOpt, Of: []api.Type{}}, {Kind: api.TOpt, Name: "E"}, {Kind: api.TOpt, Of: []api.Type{tInt}[:0]}, opt(api.Type{Kind: api.TOpt})} {
		isWire(t, d, 1, x)
	}
}

// 13.3: what may be absent of what may be absent, many levels deep.
func TestDeepWire(t *testing.T) {
	d, _ := read(t, "enum E { 0 A; } struct P { }")
	for _, n := range []int{1, 2, 8, 9, 100, 1<<16 - 2} {
		for _, r := range []struct {
			x    api.Type
			want int
		}{
			{tInt, 0}, {tText, 1}, {named("E"), 0}, {named("P"), 1}, {named("Z"), 1}, {list(tInt), 1}, {api.Type{Kind: api.TOpt}, 1}, {api.Type{Kind: api.TOpt, Of: []api.Type{tInt, tInt}}, 1}, {api.Type{}, 1},
		} {
			x := r.x
			for range n {
				x = opt(x)
			}
			isWire(t, d, r.want, x)
		}
	}
}

// R1: types that have themselves within them have an answer, too, and a schema as well.
func TestEndless(t *testing.T) {
	for _, kind := range []int{0, api.TInt, api.TNamed, api.TList, api.TMap, api.TOpt} {
		for n := 1; n <= 3; n++ {
			for own := range n {
				of := make([]api.Type, n)
				for i := range of {
					of[i] = tInt
				}
				of[own] = api.Type{Kind: kind, Of: of}
				d, _ := read(t, "enum E { 0 A; }")
				if w := d.Wire(of[own]); w != 0 && w != 1 {
					t.Fatal(w)
				}
				for kind := 1; kind <= 4; kind++ {
					l := []api.Decl{decl(api.DStruct, "P"), {Kind: kind, Name: "X", Fields: []api.Field{field(1, "a", tInt), field(2, "b", of[own])}, At: 9}}
					if d, f := Of(l); d != nil || f != (api.Fault{Err: api.ErrType, At: 9}) {
						t.Fatalf("%v, %v", d, f)
					}
				}
			}
		}
	}
	both := make([]api.Type, 2)
	both[0], both[1] = list(tInt), list(tInt)
	both[0].Of, both[1].Of = both, both
	if d, f := Of([]api.Decl{decl(api.DEnum, "E", field(0, "a", table(both[0], both[1])))}); d != nil || f.Err != api.ErrType {
		t.Fatalf("%v, %v", d, f)
	}
}

// wrapped is a type within so many lists and maps, by turns.
func wrapped(x api.Type, deep int) api.Type {
	for i := range deep {
		if i%2 == 0 {
			x = list(x)
		} else {
			x = table(tText, x)
		}
	}
	return x
}

// 13.1 to 13.3: types within types, many levels deep, as deep as the bound lets them be, in a field and in an enum's value.
func TestDeepTypes(t *testing.T) {
	for _, n := range []int{1, 8, 9, 1000, 1<<16 - 2} {
		for kind := 1; kind <= 4; kind++ {
			l := []api.Decl{decl(kind, "X", field(1, "a", wrapped(tInt, n)))}
			d, f := Of(l)
			other, g := Of([]api.Decl{decl(kind, "X", field(1, "a", wrapped(tUint, n)))})
			if f != (api.Fault{}) || g != (api.Fault{}) || d.Same(other) || !d.Same(d) {
				t.Fatalf("%d deep: %v, %v", n, f, g)
			}
			again, f := Of(d.Decls())
			if f != (api.Fault{}) || !again.Same(d) || !d.Same(again) {
				t.Fatalf("%d deep: %v", n, f)
			}
			for _, y := range append(d.Rows("X"), l[0].Fields[0]) {
				isRow(t, d, "X", y)
				isWire(t, d, 1, y.Type)
			}
		}
	}
}

const sameText = "struct A { 1 a: int; 2 b: list<map<text,B>>; 3 c: int?; 4 d: C; } struct B { 1 a: int; 2 b: map<C,bool>; } enum C { 0 x; 1 y; }" +
	" service S { 1 get(A): B; oneway 2 put(B): A; } union U { 1 a: int; 2 b: B; } enum D { 5 x; } struct E { }"

// edits are ways to make just one thing another one, all of them unlike the others; what is made is a schema still.
func edits() []func(l []api.Decl) []api.Decl {
	at := func(f func(l []api.Decl)) func(l []api.Decl) []api.Decl {
		return func(l []api.Decl) []api.Decl {
			f(l)
			return l
		}
	}
	return []func(l []api.Decl) []api.Decl{
		at(func([]api.Decl) {}),
		// A kind.
		at(func(l []api.Decl) { l[4].Kind = api.DStruct }),
		at(func(l []api.Decl) { l[4].Kind = api.DEnum }),
		at(func(l []api.Decl) { l[4].Kind = api.DService }),
		at(func(l []api.Decl) { l[6].Kind = api.DService }),
		// A name.
		at(func(l []api.Decl) { l[6].Name = "e" }),
		at(func(l []api.Decl) { l[5].Name = "" }),
		at(func(l []api.Decl) { l[3].Name = "T" }),
		at(func(l []api.Decl) { l[0].Fields[0].Name = "e" }),
		at(func(l []api.Decl) { l[4].Fields[1].Name = "A" }),
		at(func(l []api.Decl) { l[2].Fields[0].Name = "z" }),
		at(func(l []api.Decl) { l[3].Methods[1].Name = "set" }),
		// A tag.
		at(func(l []api.Decl) { l[0].Fields[3].Tag = 5 }),
		at(func(l []api.Decl) { l[4].Fields[0].Tag = 255 }),
		at(func(l []api.Decl) { l[2].Fields[1].Tag = 2 }),
		at(func(l []api.Decl) { l[5].Fields[0].Tag = 0 }),
		at(func(l []api.Decl) { l[3].Methods[0].Tag = 3 }),
		// A type, and a type within a type.
		at(func(l []api.Decl) { l[0].Fields[0].Type = tUint }),
		at(func(l []api.Decl) { l[0].Fields[0].Type = opt(tInt) }),
		at(func(l []api.Decl) { l[0].Fields[0].Type = named("C") }),
		at(func(l []api.Decl) { l[0].Fields[3].Type.Name = "D" }),
		at(func(l []api.Decl) { l[0].Fields[1].Type = opt(l[0].Fields[1].Type) }),
		at(func(l []api.Decl) { l[0].Fields[1].Type.Of[0] = named("B") }),
		at(func(l []api.Decl) { l[0].Fields[1].Type.Of[0].Of[0] = tInt }),
		at(func(l []api.Decl) { l[0].Fields[1].Type.Of[0].Of[1].Name = "A" }),
		at(func(l []api.Decl) { l[0].Fields[1].Type.Of[0].Of[1] = list(named("B")) }),
		at(func(l []api.Decl) { l[0].Fields[2].Type.Of[0] = tUint }),
		at(func(l []api.Decl) { l[0].Fields[2].Type = tInt }),
		at(func(l []api.Decl) { l[1].Fields[1].Type.Of[0].Name = "D" }),
		at(func(l []api.Decl) { l[4].Fields[1].Type = list(named("B")) }),
		at(func(l []api.Decl) { l[2].Fields[0].Type = tInt }),
		at(func(l []api.Decl) { l[2].Fields[0].Type.Name = "B" }),
		at(func(l []api.Decl) { l[5].Fields[0].Type.Of = []api.Type{{}} }),
		at(func(l []api.Decl) { l[5].Fields[0].Type.Of = []api.Type{{}, {}} }),
		// A method's In, Out or OneWay.
		at(func(l []api.Decl) { l[3].Methods[0].In = "E" }),
		at(func(l []api.Decl) { l[3].Methods[0].Out = "E" }),
		at(func(l []api.Decl) { l[3].Methods[0].OneWay = true }),
		at(func(l []api.Decl) { l[3].Methods[1].In = "A" }),
		at(func(l []api.Decl) { l[3].Methods[1].Out = "B" }),
		at(func(l []api.Decl) { l[3].Methods[1].OneWay = false }),
		// An order.
		at(func(l []api.Decl) { l[0], l[1] = l[1], l[0] }),
		at(func(l []api.Decl) { l[5], l[6] = l[6], l[5] }),
		at(func(l []api.Decl) { slices.Reverse(l) }),
		at(func(l []api.Decl) { slices.Reverse(l[0].Fields) }),
		at(func(l []api.Decl) { slices.Reverse(l[2].Fields) }),
		at(func(l []api.Decl) { slices.Reverse(l[4].Fields) }),
		at(func(l []api.Decl) { slices.Reverse(l[3].Methods) }),
		// One more, one less.
		func(l []api.Decl) []api.Decl { return append(l, decl(api.DStruct, "F")) },
		func(l []api.Decl) []api.Decl { return append([]api.Decl{decl(api.DStruct, "F")}, l...) },
		func(l []api.Decl) []api.Decl { return l[:6] },
		func(l []api.Decl) []api.Decl { return l[:5] },
		func(l []api.Decl) []api.Decl { return l[:3] },
		func(l []api.Decl) []api.Decl { return l[:0] },
		at(func(l []api.Decl) { l[0].Fields = l[0].Fields[:3] }),
		at(func(l []api.Decl) { l[1].Fields = nil }),
		at(func(l []api.Decl) { l[4].Fields = l[4].Fields[1:] }),
		at(func(l []api.Decl) { l[2].Fields = append(l[2].Fields, value(2, "z")) }),
		at(func(l []api.Decl) { l[3].Methods = l[3].Methods[:1] }),
		at(func(l []api.Decl) { l[3].Methods = nil }),
		at(func(l []api.Decl) { l[3].Methods = append(l[3].Methods, method(3, "b", "A", "B")) }),
		at(func(l []api.Decl) { l[6].Fields = []api.Field{field(1, "a", tInt)} }),
		at(func(l []api.Decl) { l[6].Methods = []api.Method{method(1, "a", "A", "B")} }),
		at(func(l []api.Decl) { l[3].Fields = []api.Field{field(9, "a", tInt)} }),
	}
}

// 13.3: schemas in which just one thing is another one are not the same; each is the same as itself, and as one of the same declarations.
func TestSame(t *testing.T) {
	var ds []*Desc
	for _, edit := range edits() {
		l, f := parse.Parse(sameText)
		if f != (api.Fault{}) {
			t.Fatal(f)
		}
		ds = append(ds, made(t, edit(l)...))
	}
	for i, d := range ds {
		for j, o := range ds {
			if d.Same(o) != (i == j) || d.Same(o) != naiveSame(d.Decls(), o.Decls()) {
				t.Fatalf("the same: %v; of %v and %v", d.Same(o), d.Decls(), o.Decls())
			}
		}
		again := made(t, d.Decls()...)
		if !d.Same(again) || !again.Same(d) {
			t.Fatalf("unlike: %v and %v", d.Decls(), again.Decls())
		}
	}
}

// 13.3: places count for nothing, in a text and in declarations; no more do lists that are nil or of length 0.
func TestSamePlaces(t *testing.T) {
	d, l := read(t, sameText)
	for _, s := range []string{" " + sameText, strings.ReplaceAll(sameText, " ", "\n\n"), sameText + "// enum F { 0 A; }", strings.ReplaceAll(sameText, ";", " ; // x\n")} {
		o, _ := read(t, s)
		if !d.Same(o) || !o.Same(d) {
			t.Fatalf("unlike: %q", s)
		}
	}
	for _, at := range []int{0, -1, 5, math.MaxInt, math.MinInt} {
		for i := range l {
			k := bare(l)
			k[i].At = at
			o := made(t, k...)
			if !d.Same(o) || !o.Same(d) || o.Decls()[i].At != at {
				t.Fatalf("unlike: %v", k)
			}
		}
	}
	k := listed(l, func(d api.Decl) api.Decl {
		d.Methods = append([]api.Method{}, d.Methods...)
		d.Fields = append([]api.Field{}, d.Fields...)
		for i := range d.Fields {
			d.Fields[i].Type.Of = append([]api.Type{}, d.Fields[i].Type.Of...)
		}
		return d
	})
	if o := made(t, k...); !d.Same(o) || !o.Same(d) {
		t.Fatalf("unlike: %v", k)
	}
}

// calls are all that may be asked of a schema of schemaText, and a list of what it is.
func calls(o *Desc) []func(d *Desc) any {
	l := []func(d *Desc) any{
		func(d *Desc) any { return bare(d.Decls()) },
		func(d *Desc) any { return d.Same(o) },
		func(d *Desc) any { return o.Same(d) },
		func(d *Desc) any { return d.Wire(named("E")) },
		func(d *Desc) any { return d.Wire(opt(named("P"))) },
	}
	for _, name := range []string{"P", "U", "E", "S", "Q", "Z", ""} {
		l = append(l, func(d *Desc) any { return d.Kind(name) }, func(d *Desc) any { return listed(d.Rows(name), bareField) })
		for _, tag := range []int{0, 2, 5, 7, 9999} {
			l = append(l, func(d *Desc) any {
				f, ok := d.Row(name, tag)
				return []any{bareField(f), ok}
			})
		}
		l = append(l, func(d *Desc) any {
			m, ok := d.Method(name, "get")
			return []any{m, ok}
		})
	}
	return l
}

// R5: the same schema answers the same each time, whichever is asked first, and in any order.
func TestAnyOrder(t *testing.T) {
	o, _ := read(t, schemaText)
	all := calls(o)
	var want []any
	for _, call := range all {
		want = append(want, call(o))
	}
	r := rand.New(rand.NewSource(13))
	for first := range all {
		for range 5 {
			d, f := Read(schemaText)
			if f != (api.Fault{}) {
				t.Fatal(f)
			}
			order := append([]int{first}, r.Perm(len(all))...)
			for _, i := range append(order, order...) {
				if got := all[i](d); !reflect.DeepEqual(got, want[i]) {
					t.Fatalf("first %d, then %d: %v, not %v", first, i, got, want[i])
				}
			}
		}
	}
}

// R5: whoever asks at the same time is answered the same.
func TestAtOnce(t *testing.T) {
	o, _ := read(t, schemaText)
	all := calls(o)
	for range 50 {
		d, _ := Read(schemaText)
		got := make([][]any, 8)
		var wait sync.WaitGroup
		for i := range got {
			wait.Go(func() {
				for j := range all {
					got[i] = append(got[i], all[(i*7+j)%len(all)](d))
				}
			})
		}
		wait.Wait()
		for i, answers := range got {
			for j, answer := range answers {
				if want := all[(i*7+j)%len(all)](o); !reflect.DeepEqual(answer, want) {
					t.Fatalf("%v, not %v", answer, want)
				}
			}
		}
	}
}

// within is a list in a longer one: something lies ahead of it, and behind its end.
func within[T any](l []T, other T) []T {
	k := append(append([]T{other}, l...), other, other)
	return k[1 : 1+len(l)]
}

func typeWithin(x api.Type) api.Type {
	var of []api.Type
	for _, y := range x.Of {
		of = append(of, typeWithin(y))
	}
	x.Of = within(of, api.Type{Kind: -7, Name: "behind", Of: []api.Type{tInt}})
	return x
}

// declsWithin are declarations all of whose lists have something behind their ends.
func declsWithin(l []api.Decl) []api.Decl {
	k := listed(l, func(d api.Decl) api.Decl {
		fields := listed(d.Fields, func(f api.Field) api.Field {
			f.Type = typeWithin(f.Type)
			return f
		})
		d.Fields = within(fields, field(-1, "behind", named("behind")))
		d.Methods = within(d.Methods, method(-1, "behind", "behind", ""))
		return d
	})
	return within(k, decl(-1, "behind", field(1, "a", named("E"))))
}

// scribble writes into a list, and behind its end.
func scribble[T any](l []T, one func(T) T) {
	for i, x := range l[:cap(l)] {
		l[:cap(l)][i] = one(x)
	}
}

func scribbleType(x api.Type) api.Type {
	scribble(x.Of, scribbleType)
	return api.Type{Kind: x.Kind%9 + 1, Name: "scribbled", Of: x.Of}
}

func scribbleField(f api.Field) api.Field {
	return api.Field{Tag: f.Tag + 1000, Name: "scribbled", Type: scribbleType(f.Type)}
}

func scribbleDecl(d api.Decl) api.Decl {
	scribble(d.Fields, scribbleField)
	scribble(d.Methods, func(m api.Method) api.Method { return oneWay(m.Tag+1, "scribbled", "", "") })
	return api.Decl{Kind: d.Kind + 1, Name: "scribbled", At: d.At - 1}
}

// R4: what is handed in stays as it was, lists' ends and what is behind them, too; and whatever becomes of it, the schema is as it was.
func TestNotKept(t *testing.T) {
	for _, text := range []string{schemaText, sameText} {
		for _, asked := range []bool{false, true} {
			was, _ := parse.Parse(text)
			l := declsWithin(was)
			l[1].Methods = within([]api.Method{method(77, "get", "P", "P")}, method(1, "", "", ""))[:0]
			ahead := wholeDecls(l)
			d, f := Of(l)
			if f != (api.Fault{}) {
				t.Fatal(f)
			}
			if asked {
				held(t, d, was)
			}
			if now := wholeDecls(l); !reflect.DeepEqual(now, ahead) {
				t.Fatalf("%v: they were %v ahead", now, ahead)
			}
			scribble(l, scribbleDecl)
			held(t, d, was)
		}
	}
	// Nor does what is asked for change a type.
	x := typeWithin(opt(opt(table(named("E"), tInt))))
	ahead := wholeType(x)
	d, _ := read(t, schemaText)
	isWire(t, d, 1, x)
	if now := wholeType(x); !reflect.DeepEqual(now, ahead) {
		t.Fatalf("%v: it was %v ahead", now, ahead)
	}
}

// R4: no bytes of a text that was handed in are kept: what they are behind that changes no schema.
func TestTextsNotKept(t *testing.T) {
	was, _ := parse.Parse(schemaText)
	b := []byte(schemaText)
	d, f := Read(unsafe.String(&b[0], len(b)))
	if f != (api.Fault{}) {
		t.Fatal(f)
	}
	for i := range b {
		b[i] = 'x'
	}
	held(t, d, was)

	b = []byte("PabEASm")
	s := func(i int) string { return unsafe.String(&b[i], 1) }
	l := []api.Decl{decl(api.DStruct, s(0), field(1, s(1), named(s(3))), field(2, s(2), list(named(s(0))))), decl(api.DEnum, s(3), value(0, s(4))), service(s(5), method(1, s(6), s(0), s(0)))}
	d = made(t, l...)
	was, _ = parse.Parse("struct P { 1 a: E; 2 b: list<P>; } enum E { 0 A; } service S { 1 m(P): P; }")
	clear(b)
	for i := range was {
		was[i].At = 0
	}
	held(t, d, was)
}

// R4: what is handed out is own memory, each time anew: what is done to it changes nothing that is told at another time.
func TestOwnMemory(t *testing.T) {
	for _, asked := range []bool{false, true} {
		d, f := Read(schemaText)
		l, _ := parse.Parse(schemaText)
		if f != (api.Fault{}) {
			t.Fatal(f)
		}
		if asked {
			held(t, d, l)
		}
		kept := d.Decls()
		scribble(d.Decls(), scribbleDecl)
		held(t, d, l)
		for _, x := range l {
			rows := d.Rows(x.Name)
			scribble(d.Rows(x.Name), scribbleField)
			for _, y := range x.Fields {
				row, _ := d.Row(x.Name, y.Tag)
				other, _ := d.Row(x.Name, y.Tag)
				scribble(other.Type.Of, scribbleType)
				if !reflect.DeepEqual(bareField(row), bareField(y)) {
					t.Fatalf("%v, not %v", row, y)
				}
			}
			held(t, d, l)
			if !reflect.DeepEqual(listed(rows, bareField), listed(naiveRows(l, x.Name), bareField)) {
				t.Fatalf("%v", rows)
			}
		}
		if !reflect.DeepEqual(bare(kept), bare(l)) {
			t.Fatalf("%v, not %v", kept, l)
		}
	}
}

// textsOf are all texts of declarations.
func textsOf(l []api.Decl) []string {
	var k []string
	for _, d := range l {
		k = append(k, d.Name)
		for _, f := range d.Fields {
			k = append(append(k, f.Name), typeTexts(f.Type)...)
		}
		for _, m := range d.Methods {
			k = append(k, m.Name, m.In, m.Out)
		}
	}
	return k
}

func typeTexts(x api.Type) []string {
	k := []string{x.Name}
	for _, y := range x.Of {
		k = append(k, typeTexts(y)...)
	}
	return k
}

// shared tells whether two texts have bytes in common.
func shared(a, b string) bool {
	x, y := uintptr(unsafe.Pointer(unsafe.StringData(a))), uintptr(unsafe.Pointer(unsafe.StringData(b)))
	return len(a) > 0 && len(b) > 0 && x < y+uintptr(len(b)) && y < x+uintptr(len(a))
}

// R4: no two texts that are told share memory, nor does one with what was handed in.
func TestOwnTexts(t *testing.T) {
	l, _ := parse.Parse("struct Pp { 1 aa: list<map<Ee,Pp>>; 2 bb: Ee?; } enum Ee { 0 Aa; } service Ss { 1 get(Pp): Pp; }")
	d := made(t, l...)
	told := textsOf(l)
	for range 2 {
		told = append(told, textsOf(d.Decls())...)
		m, _ := d.Method("Ss", "get")
		f, _ := d.Row("Pp", 1)
		told = append(told, textsOf([]api.Decl{decl(0, "", d.Rows("Pp")...), decl(0, "", f), decl(0, "", d.Rows("Ee")...), service("", m)})...)
	}
	for i, a := range told {
		for _, b := range told[:i] {
			if shared(a, b) {
				t.Errorf("%q and %q share memory", a, b)
			}
		}
	}
}

// R5: schemas that were made of the same declarations do not hang on one another, nor on those that were refused meanwhile.
func TestAgain(t *testing.T) {
	x, l := read(t, schemaText)
	y, k := read(t, "enum P { 0 A; } service U { } struct E { 5 b: P; 2 a: P; }")
	for range 20 {
		held(t, x, l)
		held(t, y, k)
		isFault(t, "struct P { 1 p: P; }", api.Fault{Err: api.ErrDeep})
		isFault(t, "struct P { 1 p P; }", api.Fault{Err: api.ErrToken, At: 15})
		z, _ := read(t, schemaText)
		if !z.Same(x) || z.Same(y) || y.Same(z) {
			t.Fatal("same")
		}
	}
}

// R1: many declarations, and as many values as an enum may have.
func TestMany(t *testing.T) {
	const n = 50000
	l := make([]api.Decl, n)
	for i := range l {
		l[i] = decl(api.DStruct, strconv.Itoa(i), field(2, "b", tInt), field(1, "a", list(named(strconv.Itoa((i+1)%n)))))
	}
	e := decl(api.DEnum, "E")
	for i := range 10000 {
		e.Fields = append(e.Fields, value((i*7919)%10000, strconv.Itoa(i)))
	}
	l = append(l, e)
	d, f := Of(l)
	if f != (api.Fault{}) {
		t.Fatal(f)
	}
	for i := range n {
		name := strconv.Itoa(i)
		if rows := d.Rows(name); len(rows) != 2 || rows[0].Name != "a" || rows[1].Name != "b" || d.Kind(name) != api.DStruct {
			t.Fatal(rows)
		}
	}
	rows := d.Rows("E")
	for i, v := range e.Fields {
		if w, ok := d.Row("E", v.Tag); rows[i].Tag != i || len(rows) != 10000 || !ok || w.Name != v.Name {
			t.Fatalf("%v, %v", rows[i], w)
		}
	}
	if o, _ := Of(d.Decls()); !o.Same(d) {
		t.Fatal("unlike")
	}
}

// chance makes declarations by chance.
type chance struct {
	*rand.Rand
}

// one is one of a few texts.
func (r chance) one(l ...string) string {
	return l[r.Intn(len(l))]
}

// typed is a type, most often one that may stand.
func (r chance) typed(deep int) api.Type {
	switch n := r.Intn(14); {
	case n < 2 && deep > 0:
		return list(r.typed(deep - 1))
	case n < 4 && deep > 0:
		return table([]api.Type{tBool, tInt, tUint, tText, named("n2")}[r.Intn(5)], r.typed(deep-1))
	case n < 8:
		return named(r.one("n0", "n1", "n2", "n2", "n2", "n4"))
	case n == 8 && r.Intn(20) == 0:
		return opt(r.typed(0))
	}
	return api.Type{Kind: 1 + r.Intn(5)}
}

// rows are fields of unlike tags, in any order.
func (r chance) rows(kind int) []api.Field {
	var l []api.Field
	for i, tag := range r.Perm(20)[:1+r.Intn(6)] {
		f := field(tag+1, "r"+strconv.Itoa(i), r.typed(3))
		if kind == api.DEnum {
			f = value(tag, "r"+strconv.Itoa(i))
		}
		if kind == api.DStruct && r.Intn(3) == 0 {
			f.Type = opt(f.Type)
		}
		if r.Intn(60) == 0 {
			f.Tag = r.Intn(8) - 1
		}
		l = append(l, f)
	}
	return l
}

// decls are declarations by chance, many of which are schemas: a struct, a union, an enum, a service, a struct, in this order or in another one.
func (r chance) decls() []api.Decl {
	var l []api.Decl
	for i, kind := range []int{api.DStruct, api.DUnion, api.DEnum, api.DService, api.DStruct} {
		d := decl(kind, "n"+strconv.Itoa(i))
		d.At = r.Intn(1000)
		if kind != api.DService || r.Intn(10) == 0 {
			d.Fields = r.rows(kind)
		}
		if kind == api.DService {
			for j := range r.Intn(4) {
				d.Methods = append(d.Methods, api.Method{Tag: 40 + 9*r.Intn(9) + j, Name: "m" + strconv.Itoa(j), In: r.one("n0", "n4"), Out: r.one("n0", "n4"), OneWay: r.Intn(2) == 0})
			}
		}
		l = append(l, d)
	}
	if r.Intn(20) == 0 {
		l[r.Intn(5)].Kind = r.Intn(7) - 1
	}
	r.Shuffle(len(l), func(i, j int) { l[i], l[j] = l[j], l[i] })
	return l
}

// heldOf asks whether declarations are a schema as the model says, or are refused as check says; and whether they are one.
func heldOf(t *testing.T, l []api.Decl) bool {
	t.Helper()
	if f := check.Check(l); f.Err != api.OK {
		refused(t, f, l...)
		return false
	}
	made(t, l...)
	return true
}

// 13.1 to 13.4: declarations by chance.
func TestByChance(t *testing.T) {
	r := chance{rand.New(rand.NewSource(13))}
	n := 0
	for range 3000 {
		if heldOf(t, r.decls()) {
			n++
		}
	}
	if n < 800 || n > 2800 {
		t.Errorf("%d schemas", n)
	}
}

// 13.3: which of some schemas by chance are the same, all of few declarations.
func TestSameByChance(t *testing.T) {
	r := chance{rand.New(rand.NewSource(131))}
	var ds []*Desc
	for len(ds) < 150 {
		kind := api.DStruct + r.Intn(2)
		x := decl(kind, r.one("A", "B"), field(1+r.Intn(2), r.one("a", "b"), []api.Type{tInt, list(tInt), list(tUint), tText}[r.Intn(4)]))
		x.At = r.Intn(3)
		l := []api.Decl{x, decl(api.DStruct, "C")}
		ds = append(ds, made(t, l[:1+r.Intn(2)]...))
	}
	same := 0
	for i, d := range ds {
		for j, o := range ds {
			is := d.Same(o)
			if is != naiveSame(d.Decls(), o.Decls()) {
				t.Fatalf("the same: %v; of %v and %v", is, d.Decls(), o.Decls())
			}
			if is && i != j {
				same++
			}
		}
	}
	if same < 20 {
		t.Errorf("%d", same)
	}
}

func FuzzDesc(f *testing.F) {
	for _, s := range []string{"", schemaText, sameText, "enum E { 0 A; }", "struct P { 1 p: P; }", "union U { 1 u: U; 2 n: int?; }", "service S { 1 a(P): Z; }"} {
		f.Add(s, int64(1))
	}
	f.Fuzz(func(t *testing.T, s string, seed int64) {
		l, g := parse.Parse(s)
		if g.Err != api.OK {
			isFault(t, s, g)
		} else if heldOf(t, l) {
			read(t, s)
		} else {
			isFault(t, s, check.Check(l))
		}
		heldOf(t, chance{rand.New(rand.NewSource(seed))}.decls())
	})
}
