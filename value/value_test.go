package value

import (
	"fmt"
	"math"
	"math/rand"
	"reflect"
	"slices"
	"strings"
	"sync"
	"testing"
	"unsafe"

	"concourse/api"
)

func vBool(n int64) api.Value   { return api.Value{Kind: api.VBool, Num: n} }
func vInt(n int64) api.Value    { return api.Value{Kind: api.VInt, Num: n} }
func vUint(n uint64) api.Value  { return api.Value{Kind: api.VUint, Num: int64(n)} }
func vEnum(n int64) api.Value   { return api.Value{Kind: api.VEnum, Num: n} }
func vText(s string) api.Value  { return api.Value{Kind: api.VText, Text: s} }
func vBytes(s string) api.Value { return api.Value{Kind: api.VBytes, Text: s} }

func vList(l ...api.Value) api.Value { return api.Value{Kind: api.VList, Items: l} }
func vMap(l ...api.Value) api.Value  { return api.Value{Kind: api.VMap, Items: l} }

func vStruct(tags []int, l ...api.Value) api.Value {
	return api.Value{Kind: api.VStruct, Tags: tags, Items: l}
}

func vUnion(tags []int, l ...api.Value) api.Value {
	return api.Value{Kind: api.VUnion, Tags: tags, Items: l}
}

func tags(l ...int) []int { return l }

// one is a value, and what is told of it.
type one struct {
	v          api.Value
	well       bool
	deep, size int
	text       string
}

// numbers are those of values that have a number, each unlike the others.
func numbers() []one {
	return []one{
		{vBool(0), true, 1, 8, "false"},
		{vBool(1), true, 1, 8, "true"},
		{vBool(2), false, 1, 8, "true"},
		{vBool(-1), false, 1, 8, "true"},
		{vBool(256), false, 1, 8, "true"},
		{vBool(1 << 32), false, 1, 8, "true"},
		{vBool(math.MinInt64), false, 1, 8, "true"},
		{vInt(0), true, 1, 8, "0"},
		{vInt(1), true, 1, 8, "1"},
		{vInt(10), true, 1, 8, "10"},
		{vInt(-1), true, 1, 8, "-1"},
		{vInt(-120), true, 1, 8, "-120"},
		{vInt(math.MaxInt64), true, 1, 8, "9223372036854775807"},
		{vInt(math.MinInt64), true, 1, 8, "-9223372036854775808"},
		{vUint(0), true, 1, 8, "0"},
		{vUint(1), true, 1, 8, "1"},
		{vUint(1<<63 - 1), true, 1, 8, "9223372036854775807"},
		{vUint(1 << 63), true, 1, 8, "9223372036854775808"},
		{vUint(math.MaxUint64 - 1), true, 1, 8, "18446744073709551614"},
		{vUint(math.MaxUint64), true, 1, 8, "18446744073709551615"},
		{vEnum(0), true, 1, 8, "0"},
		{vEnum(1), true, 1, 8, "1"},
		{vEnum(9998), true, 1, 8, "9998"},
		{vEnum(9999), true, 1, 8, "9999"},
		{vEnum(10000), false, 1, 8, "10000"},
		{vEnum(-1), false, 1, 8, "-1"},
		{vEnum(1 << 32), false, 1, 8, "4294967296"},
		{vEnum(math.MinInt64), false, 1, 8, "-9223372036854775808"},
		{vEnum(math.MaxInt64), false, 1, 8, "9223372036854775807"},
	}
}

// texts are those that have a text.
func texts() []one {
	return []one{
		{vText(""), true, 1, 8, `""`},
		{vText("a"), true, 1, 9, `"a"`},
		{vText("a b!"), true, 1, 12, `"a b!"`},
		{vText("\x00"), true, 1, 9, `"\00"`},
		{vText("a\n\"\\~\x7f"), true, 1, 14, `"a\0a\22\5c~\7f"`},
		{vText("\xc3\xa4\xe2\x82\xac\xf0\x9f\x98\x80"), true, 1, 17, `"\c3\a4\e2\82\ac\f0\9f\98\80"`},
		{vText("\xef\xbf\xbd"), true, 1, 11, `"\ef\bf\bd"`},
		{vText("\xff"), false, 1, 9, `"\ff"`},
		{vText("a\xc3"), false, 1, 10, `"a\c3"`},
		{vText("\x80a"), false, 1, 10, `"\80a"`},
		{vText("\xed\xa0\x80"), false, 1, 11, `"\ed\a0\80"`},
		{vText("\xc0\x80"), false, 1, 10, `"\c0\80"`},
		{vText("\xf4\x90\x80\x80"), false, 1, 12, `"\f4\90\80\80"`},
		{vBytes(""), true, 1, 8, `""`},
		{vBytes("a"), true, 1, 9, `"a"`},
		{vBytes("\xff\x00"), true, 1, 10, `"\ff\00"`},
		{vBytes("a\xc3"), true, 1, 10, `"a\c3"`},
		{vBytes("\xed\xa0\x80"), true, 1, 11, `"\ed\a0\80"`},
		{vBytes("\xc3\xa4"), true, 1, 10, `"\c3\a4"`},
	}
}

// rows are lists and maps.
func rows() []one {
	return []one{
		{vList(), true, 1, 8, "[]"},
		{vList(vInt(1)), true, 2, 16, "[1]"},
		{vList(vInt(1), vInt(1)), true, 2, 24, "[1,1]"},
		{vList(vInt(2), vInt(1), vInt(3)), true, 2, 32, "[2,1,3]"},
		{vList(vText("a"), vBool(0), vList(), vMap(vInt(1), vInt(2))), true, 3, 57, `["a",false,[],{1:2}]`},
		{vList(vList(vList(vList()))), true, 4, 32, "[[[[]]]]"},
		{vList(vInt(1), vBool(2)), false, 2, 24, "[1,true]"},
		{vList(api.Value{}), false, 2, 16, "[?]"},
		{vMap(), true, 1, 8, "{}"},
		{vMap(vInt(1), vInt(1)), true, 2, 24, "{1:1}"},
		{vMap(vInt(-1), vText("b"), vInt(1), vBytes("a")), true, 2, 42, `{-1:"b",1:"a"}`},
		{vMap(vBool(0), vInt(7), vBool(1), vBool(0)), true, 2, 40, "{false:7,true:false}"},
		{vMap(vBool(1), vInt(7), vBool(0), vBool(0)), false, 2, 40, "{true:7,false:false}"},
		{vMap(vUint(1), vList(), vUint(1<<63), vMap()), true, 2, 40, "{1:[],9223372036854775808:{}}"},
		{vMap(vUint(1<<63), vList(), vUint(1), vMap()), false, 2, 40, "{9223372036854775808:[],1:{}}"},
		{vMap(vInt(math.MinInt64), vList(), vInt(1), vMap()), true, 2, 40, "{-9223372036854775808:[],1:{}}"},
		{vMap(vEnum(9), vEnum(9), vEnum(10), vEnum(9)), true, 2, 40, "{9:9,10:9}"},
		{vMap(vText(""), vInt(1), vText("a"), vInt(2), vText("aa"), vInt(3), vText("b"), vInt(4)), true, 2, 76, `{"":1,"a":2,"aa":3,"b":4}`},
		{vMap(vText("b"), vInt(1), vText("aa"), vInt(2)), false, 2, 43, `{"b":1,"aa":2}`},
		{vMap(vText("aa"), vInt(1), vText("a"), vInt(2)), false, 2, 43, `{"aa":1,"a":2}`},
		{vMap(vText("z"), vInt(1), vText("\xc3\xa4"), vInt(2)), true, 2, 43, `{"z":1,"\c3\a4":2}`},
		{vMap(vInt(1), vInt(1), vInt(1), vInt(1)), false, 2, 40, "{1:1,1:1}"},
		{vMap(vInt(1), vInt(1), vInt(2), vInt(1), vInt(2), vInt(1)), false, 2, 56, "{1:1,2:1,2:1}"},
		{vMap(vInt(2), vInt(1), vInt(1), vInt(1)), false, 2, 40, "{2:1,1:1}"},
		{vMap(vInt(1), vInt(1), vInt(3), vInt(1), vInt(2), vInt(1)), false, 2, 56, "{1:1,3:1,2:1}"},
		// Keys of unlike kinds, rising by their kinds.
		{vMap(vBool(1), vInt(1), vInt(2), vInt(1)), false, 2, 40, "{true:1,2:1}"},
		{vMap(vInt(1), vInt(1), vUint(2), vInt(1)), false, 2, 40, "{1:1,2:1}"},
		{vMap(vInt(1), vInt(1), vInt(2), vInt(1), vUint(3), vInt(1)), false, 2, 56, "{1:1,2:1,3:1}"},
		// Items that no value, or no key, is behind.
		{vMap(vInt(1)), false, 2, 16, "{1}"},
		{vMap(vInt(1), vInt(1), vInt(2)), false, 2, 32, "{1:1,2}"},
		{vMap(vInt(1), vText("a"), vInt(2), vText("b"), vText("c")), false, 2, 51, `{1:"a",2:"b","c"}`},
		// Keys of kinds that they may not have, or that are no values.
		{vMap(vBytes("a"), vInt(1)), false, 2, 25, `{"a":1}`},
		{vMap(vList(), vInt(1)), false, 2, 24, "{[]:1}"},
		{vMap(vMap(), vInt(1)), false, 2, 24, "{{}:1}"},
		{vMap(vStruct(nil), vInt(1)), false, 2, 24, "{():1}"},
		{vMap(vUnion(tags(1), vInt(1)), vInt(1)), false, 3, 32, "{<1=1>:1}"},
		{vMap(api.Value{}, vInt(1)), false, 2, 24, "{?:1}"},
		{vMap(vBool(2), vInt(1)), false, 2, 24, "{true:1}"},
		{vMap(vEnum(10000), vInt(1)), false, 2, 24, "{10000:1}"},
		{vMap(vText("\xff"), vInt(1)), false, 2, 25, `{"\ff":1}`},
		{vMap(vInt(1), vBool(2)), false, 2, 24, "{1:true}"},
		{vMap(vInt(1), vInt(1), vInt(2), vEnum(-1)), false, 2, 40, "{1:1,2:-1}"},
	}
}

// byTags are structs and unions.
func byTags() []one {
	return []one{
		{vStruct(nil), true, 1, 8, "()"},
		{vStruct(tags(1), vInt(5)), true, 2, 16, "(1=5)"},
		{vStruct(tags(255), vInt(5)), true, 2, 16, "(255=5)"},
		{vStruct(tags(1, 2, 255), vInt(5), vStruct(nil), vText("a")), true, 2, 33, `(1=5,2=(),255="a")`},
		{vStruct(tags(1), vList(vInt(1), vInt(2))), true, 3, 32, "(1=[1,2])"},
		{vStruct(tags(0), vInt(5)), false, 2, 16, "(0=5)"},
		{vStruct(tags(-1), vInt(5)), false, 2, 16, "(-1=5)"},
		{vStruct(tags(256), vInt(5)), false, 2, 16, "(256=5)"},
		{vStruct(tags(1, 256), vInt(5), vInt(6)), false, 2, 24, "(1=5,256=6)"},
		{vStruct(tags(0, 1), vInt(5), vInt(6)), false, 2, 24, "(0=5,1=6)"},
		{vStruct(tags(3, 3), vInt(5), vInt(6)), false, 2, 24, "(3=5,3=6)"},
		{vStruct(tags(3, 2), vInt(5), vInt(6)), false, 2, 24, "(3=5,2=6)"},
		{vStruct(tags(1, 3, 2), vInt(5), vInt(6), vInt(7)), false, 2, 32, "(1=5,3=6,2=7)"},
		{vStruct(tags(1)), false, 1, 8, "()"},
		{vStruct(tags(1, 2), vInt(5)), false, 2, 16, "(1=5)"},
		{vStruct(tags(1, 2, 3), vInt(5), vInt(6)), false, 2, 24, "(1=5,2=6)"},
		{vStruct(nil, vInt(5)), false, 2, 16, "(0=5)"},
		{vStruct(tags(1), vInt(5), vInt(6)), false, 2, 24, "(1=5,0=6)"},
		{vStruct(tags(7), vInt(5), vInt(6), vInt(7)), false, 2, 32, "(7=5,0=6,0=7)"},
		{vStruct(tags(1, 2), vInt(5), vBool(2)), false, 2, 24, "(1=5,2=true)"},
		{vStruct(tags(math.MinInt64, math.MaxInt64), vInt(5), vInt(6)), false, 2, 24, "(-9223372036854775808=5,9223372036854775807=6)"},
		{vUnion(tags(1), vInt(5)), true, 2, 16, "<1=5>"},
		{vUnion(tags(255), vUnion(tags(2), vText("a"))), true, 3, 25, `<255=<2="a">>`},
		{vUnion(nil), false, 1, 8, "<>"},
		{vUnion(nil, vInt(5)), false, 2, 16, "<0=5>"},
		{vUnion(nil, vInt(5), vInt(6)), false, 2, 24, "<0=5,0=6>"},
		{vUnion(tags(1)), false, 1, 8, "<>"},
		{vUnion(tags(1), vInt(5), vInt(6)), false, 2, 24, "<1=5,0=6>"},
		{vUnion(tags(1, 2)), false, 1, 8, "<>"},
		{vUnion(tags(1, 2), vInt(5)), false, 2, 16, "<1=5>"},
		{vUnion(tags(1, 2), vInt(5), vInt(6)), false, 2, 24, "<1=5,2=6>"},
		{vUnion(tags(0), vInt(5)), false, 2, 16, "<0=5>"},
		{vUnion(tags(-1), vInt(5)), false, 2, 16, "<-1=5>"},
		{vUnion(tags(256), vInt(5)), false, 2, 16, "<256=5>"},
		{vUnion(tags(1), vEnum(-1)), false, 2, 16, "<1=-1>"},
	}
}

// strange are those of kinds that there are not, and what has something that its kind does not have.
func strange() []one {
	l := []one{
		{api.Value{}, false, 1, 8, "?"},
		{api.Value{Num: 1, Text: "a", Tags: tags(1), Items: []api.Value{vInt(1)}}, false, 2, 17, "?"},
		{api.Value{Kind: 11, Items: []api.Value{vInt(1), vList(vInt(2))}}, false, 3, 32, "?"},
		{api.Value{Kind: 12, Text: "abc"}, false, 1, 11, "?"},
		{api.Value{Kind: api.VInt, Num: 1, Text: "x"}, false, 1, 9, "1"},
		{api.Value{Kind: api.VInt, Num: 1, Items: []api.Value{vList(vText("abc"))}}, false, 3, 27, "1"},
		{api.Value{Kind: api.VText, Text: "a", Num: 1}, false, 1, 9, `"a"`},
		{api.Value{Kind: api.VList, Num: 1}, false, 1, 8, "[]"},
		{api.Value{Kind: api.VList, Tags: tags(1), Items: []api.Value{vInt(1)}}, false, 2, 16, "[1]"},
		{api.Value{Kind: api.VList, Text: "ab", Items: []api.Value{vInt(1)}}, false, 2, 18, "[1]"},
		{api.Value{Kind: api.VMap, Tags: tags(1, 2), Items: []api.Value{vInt(1), vInt(2)}}, false, 2, 24, "{1:2}"},
		{api.Value{Kind: api.VStruct, Text: "ab", Tags: tags(1), Items: []api.Value{vInt(1)}}, false, 2, 18, "(1=1)"},
		{api.Value{Kind: api.VUnion, Num: 1, Tags: tags(1), Items: []api.Value{vInt(1)}}, false, 2, 16, "<1=1>"},
	}
	for _, kind := range []int{-1, 11, 15, 257, 1<<32 + 2, -1 << 62, math.MinInt, math.MaxInt} {
		l = append(l, one{api.Value{Kind: kind}, false, 1, 8, "?"})
	}
	return l
}

func ones() []one {
	return slices.Concat(numbers(), texts(), rows(), byTags(), strange())
}

// isOne asks whether just this is told of a value.
func isOne(t *testing.T, o one) {
	t.Helper()
	if ok := Well(o.v); ok != o.well {
		t.Fatalf("Well(%v) = %v", o.v, ok)
	}
	if n := Deep(o.v); n != o.deep {
		t.Fatalf("Deep(%v) = %d, not %d", o.v, n, o.deep)
	}
	if n := Size(o.v); n != o.size {
		t.Fatalf("Size(%v) = %d, not %d", o.v, n, o.size)
	}
	if s := Text(o.v); s != o.text {
		t.Fatalf("Text(%v) = %s, not %s", o.v, s, o.text)
	}
}

// The chapter's example.
func TestExample(t *testing.T) {
	v := vStruct(tags(1), vList(vInt(1), vInt(2)))
	if s := Text(v); s != "(1=[1,2])" {
		t.Fatal(s)
	}
	isOne(t, one{v, true, 3, 32, "(1=[1,2])"})
}

// 15.1, 15.3: a value of each kind, and what is none.
func TestOnes(t *testing.T) {
	for _, o := range ones() {
		isOne(t, o)
		held(t, o.v)
	}
}

// wrap puts a value within another one, which is well if it is; it tells what the other one's text has around, and how much larger it is (0: the value is there twice).
type wrap struct {
	in            func(v api.Value) api.Value
	ahead, behind string
	size          int
}

func wraps() []wrap {
	return []wrap{
		{func(v api.Value) api.Value { return vList(v) }, "[", "]", 8},
		{func(v api.Value) api.Value { return vList(v, vInt(7), v) }, "", "", 0},
		{func(v api.Value) api.Value { return vList(vInt(1), vText("ab"), v) }, `[1,"ab",`, "]", 26},
		{func(v api.Value) api.Value { return vList(vList(), v, vBool(1)) }, "[[],", ",true]", 24},
		{func(v api.Value) api.Value { return vMap(vInt(-3), v) }, "{-3:", "}", 16},
		{func(v api.Value) api.Value { return vMap(vText("a"), vText("b"), vText("c"), v, vText("d"), vInt(0)) }, `{"a":"b","c":`, `,"d":0}`, 52},
		{func(v api.Value) api.Value { return vStruct(tags(9), v) }, "(9=", ")", 8},
		{func(v api.Value) api.Value { return vStruct(tags(1, 20, 255), vInt(1), v, vUint(2)) }, "(1=1,20=", ",255=2)", 24},
		{func(v api.Value) api.Value { return vUnion(tags(7), v) }, "<7=", ">", 8},
	}
}

// within is what is told of a value within another one.
func (w wrap) within(o one) one {
	if w.size == 0 {
		return one{w.in(o.v), o.well, o.deep + 1, 16 + 2*o.size, "[" + o.text + ",7," + o.text + "]"}
	}
	return one{w.in(o.v), o.well, o.deep + 1, w.size + o.size, w.ahead + o.text + w.behind}
}

// 15.1, 15.3: each of them within lists, maps, structs and unions, four levels deep.
func TestWithin(t *testing.T) {
	for _, o := range ones() {
		for _, a := range wraps() {
			x := a.within(o)
			isOne(t, x)
			held(t, x.v)
			for _, b := range wraps() {
				y := b.within(x)
				isOne(t, y)
				for _, c := range wraps() {
					isOne(t, c.within(y))
					isOne(t, a.within(c.within(y)))
				}
			}
		}
	}
}

// 15.1: any field that a kind does not have.
func TestBeside(t *testing.T) {
	bare := []api.Value{vBool(0), vInt(0), vUint(0), vEnum(0), vText(""), vBytes(""), vList(), vMap(), vStruct(nil), vUnion(tags(1), vInt(1)), {}}
	fields := map[byte][]func(v *api.Value){
		'n': {func(v *api.Value) { v.Num = 1 }, func(v *api.Value) { v.Num = -1 }, func(v *api.Value) { v.Num = 1 << 32 }, func(v *api.Value) { v.Num = math.MinInt64 }},
		't': {func(v *api.Value) { v.Text = "a" }, func(v *api.Value) { v.Text = "\x00" }, func(v *api.Value) { v.Text = "\xff" }},
		'g': {func(v *api.Value) { v.Tags = tags(1) }, func(v *api.Value) { v.Tags = tags(0) }, func(v *api.Value) { v.Tags = tags(1, 2) }},
		'i': {func(v *api.Value) { v.Items = []api.Value{vInt(0)} }, func(v *api.Value) { v.Items = []api.Value{{}} }, func(v *api.Value) { v.Items = []api.Value{vInt(1), vInt(2)} }},
	}
	for _, v := range bare {
		if Well(v) != (v.Kind != 0) {
			t.Fatal(v)
		}
		has := naiveFields(v.Kind)
		for field, edits := range fields {
			for _, edit := range edits {
				x := v
				edit(&x)
				if strings.IndexByte(has, field) < 0 && Well(x) {
					t.Fatal(x)
				}
				held(t, x)
				heldPair(t, v, x)
			}
		}
	}
}

// 15.1: all lists of up to three tags of few, with up to four items, of structs and of unions.
func TestTags(t *testing.T) {
	few := []int{math.MinInt, -1, 0, 1, 2, 254, api.MaxTag, api.MaxTag + 1, 1<<32 + 1, math.MaxInt}
	lists := [][]int{nil, {}}
	for _, a := range few {
		lists = append(lists, tags(a))
		for _, b := range few {
			lists = append(lists, tags(a, b))
			for _, c := range few {
				lists = append(lists, tags(a, b, c))
			}
		}
	}
	items := []api.Value{vInt(1), vText("a"), vList(), vStruct(nil)}
	wells := map[int]int{}
	for _, l := range lists {
		for n := range len(items) + 1 {
			for _, v := range []api.Value{vStruct(l, items[:n]...), vUnion(l, items[:n]...)} {
				held(t, v)
				if Well(v) {
					wells[v.Kind]++
				}
			}
		}
	}
	// Of 1, 2, 254 and 255: none (nil, and of length 0), four, six, four.
	if wells[api.VStruct] != 16 || wells[api.VUnion] != 4 {
		t.Fatal(wells)
	}
}

// 15.1: each tag from 1 to MaxTag, alone and in one struct.
func TestEachTag(t *testing.T) {
	var all []int
	var items []api.Value
	for tag := -300; tag < 600; tag++ {
		in := tag >= 1 && tag <= api.MaxTag
		if Well(vStruct(tags(tag), vInt(1))) != in || Well(vUnion(tags(tag), vInt(1))) != in {
			t.Fatal(tag)
		}
		if in {
			all, items = append(all, tag), append(items, vUint(uint64(tag)))
		}
	}
	v := vStruct(all, items...)
	if !Well(v) || Size(v) != 8*256 {
		t.Fatal(v)
	}
	held(t, v)
	for i := range all {
		for _, tag := range []int{all[i] - 1, all[i] + 1} {
			x := bare(v)
			x.Tags[i] = tag
			if Well(x) {
				t.Fatal(x.Tags)
			}
		}
	}
	v.Tags = v.Tags[:254]
	if Well(v) {
		t.Fatal("an item over")
	}
}

// 15.1: enums of all numbers that they may have, and of others around.
func TestEachEnum(t *testing.T) {
	texts := map[string]int{}
	for n := int64(-2000); n < 12000; n++ {
		v := vEnum(n)
		if Well(v) != (n >= 0 && n <= 9999) {
			t.Fatal(n)
		}
		texts[Text(v)]++
		if Cmp(v, vEnum(n+1)) != -1 || Cmp(vEnum(n+1), v) != 1 || Cmp(v, v) != 0 {
			t.Fatal(n)
		}
	}
	if len(texts) != 14000 {
		t.Fatal(len(texts))
	}
}

// risingKeys are keys of each kind that keys may have, of each kind rising, all of them well.
func risingKeys() [][]api.Value {
	var ints, uints, enums []api.Value
	for bit := 63; bit >= 0; bit-- {
		n := int64(-1) << bit
		ints = append(ints, vInt(n))
		if bit > 0 {
			ints = append(ints, vInt(n+1))
		}
	}
	ints = slices.CompactFunc(ints, func(a, b api.Value) bool { return a.Num == b.Num })
	ints = append(ints, vInt(0))
	uints = append(uints, vUint(0))
	for bit := range 64 {
		n := uint64(1) << bit
		if bit > 0 && bit < 63 {
			ints = append(ints, vInt(int64(n)-1))
		}
		if bit < 63 {
			ints = append(ints, vInt(int64(n)))
		}
		if bit > 1 {
			uints = append(uints, vUint(n-1))
		}
		uints = append(uints, vUint(n))
	}
	ints = slices.CompactFunc(append(ints, vInt(math.MaxInt64)), func(a, b api.Value) bool { return a.Num == b.Num })
	uints = append(uints, vUint(1<<63+1), vUint(math.MaxUint64-1), vUint(math.MaxUint64))
	for _, n := range []int64{0, 1, 2, 9, 10, 11, 99, 100, 127, 128, 255, 256, 999, 1000, 4999, 9998, 9999} {
		enums = append(enums, vEnum(n))
	}
	var texts []api.Value
	for _, s := range []string{
		"", "\x00", "\x00\x00", "\x00a", "\n", " ", "!", "\"", "\"\"", "#", ",", "0", "00", "1", "10", "2", "9", "A", "\\", "\\00", "\\0a", "\\22", "\\5c", "\\\\", "a", "a\x00", "aa", "ab", "a\xc3\xa4", "b", "ba",
		"z", "~", "\x7f", "\xc2\x80", "\xc3\xa4", "\xc3\xa4a", "\xc3\xbf", "\xdf\xbf", "\xe0\xa0\x80", "\xe2\x82\xac", "\xed\x9f\xbf", "\xee\x80\x80", "\xef\xbf\xbd", "\xef\xbf\xbf", "\xf0\x90\x80\x80", "\xf0\x9f\x98\x80", "\xf4\x8f\xbf\xbf",
	} {
		texts = append(texts, vText(s))
	}
	return [][]api.Value{{vBool(0), vBool(1)}, ints, uints, enums, texts}
}

// 15.1, 15.2, 15.4: keys of one kind, each two of them; and maps of all of them.
func TestRisingKeys(t *testing.T) {
	for _, l := range risingKeys() {
		var all []api.Value
		for i, a := range l {
			if !Well(a) {
				t.Fatal(a)
			}
			for j, b := range l {
				want := 0
				if i < j {
					want = -1
				} else if i > j {
					want = 1
				}
				if n := Cmp(a, b); n != want {
					t.Fatalf("Cmp(%v, %v) = %d, not %d", a, b, n, want)
				}
				if (Text(a) == Text(b)) != (i == j) || Same(a, b) != (i == j) {
					t.Fatalf("%v and %v are alike", a, b)
				}
				if Well(vMap(a, vInt(1), b, vInt(2))) != (i < j) {
					t.Fatalf("%v and %v: a map", a, b)
				}
				heldPair(t, a, b)
			}
			all = append(all, a, vInt(int64(i)))
		}
		v := vMap(all...)
		if !Well(v) {
			t.Fatalf("%v is no map", v)
		}
		held(t, v)
		// Any two of its keys the other way round, and any of them twice.
		for i := 2; i < len(all); i += 2 {
			x := bare(v)
			x.Items[i-2], x.Items[i] = x.Items[i], x.Items[i-2]
			y := bare(v)
			y.Items[i] = y.Items[i-2]
			if Well(x) || Well(y) || Same(x, v) || Same(v, y) {
				t.Fatalf("%d of %v", i, v)
			}
		}
	}
}

// 15.4: all short texts of few bytes that are right.
func TestShortTexts(t *testing.T) {
	few := []string{"\x00", "\n", " ", "\"", "#", "0", "a", "c", "\\", "~", "\x7f", "\xc2\x80", "\xc3\xa4", "\xef\xbf\xbd", "\xf0\x9f\x98\x80"}
	level := []string{""}
	seen := map[string]string{}
	var all []api.Value
	for range 4 {
		var next []string
		for _, s := range level {
			v := vText(s)
			if o, ok := seen[Text(v)]; ok || !Well(v) {
				t.Fatalf("%q and %q", o, s)
			}
			seen[Text(v)] = s
			if len(s) < 5 {
				all = append(all, v)
			}
			for _, c := range few {
				next = append(next, s+c)
			}
		}
		level = next
	}
	if len(seen) != 1+15+225+3375 {
		t.Fatal(len(seen))
	}
	for i, a := range all {
		for _, b := range all[:i] {
			if Cmp(a, b) == 0 || Cmp(a, b) != strings.Compare(a.Text, b.Text) || Cmp(b, a) != -Cmp(a, b) {
				t.Fatalf("%q and %q", a.Text, b.Text)
			}
		}
	}
}

// 15.1: keys of unlike kinds, of kinds that they may have and that they may not, of three each.
func TestKeyKinds(t *testing.T) {
	keys := []api.Value{
		vBool(0), vBool(1), vBool(2), vInt(-1), vInt(1), vInt(2), vUint(1), vUint(2), vUint(math.MaxUint64), vEnum(1), vEnum(2), vEnum(10000), vText("a"), vText("b"), vText("\xff"),
		vBytes("a"), vBytes("b"), vList(), vList(vInt(1)), vMap(), vStruct(nil), vStruct(tags(1), vInt(1)), vUnion(tags(1), vInt(1)), {}, {Kind: 11}, {Kind: -1},
		{Kind: api.VInt, Num: 3, Text: "x"}, {Kind: api.VText, Text: "c", Num: 1},
	}
	wells := 0
	for _, a := range keys {
		for _, b := range keys {
			heldPair(t, a, b)
			held(t, vMap(a, vInt(1), b, vInt(2)))
			for _, c := range keys {
				v := vMap(a, vInt(3), b, vInt(2), c, vInt(1))
				if Well(v) != naiveWell(v) {
					t.Fatal(v)
				}
				if Well(v) {
					wells++
				}
			}
		}
	}
	// Just the three of VInt, and those of VUint.
	if wells != 2 {
		t.Fatal(wells)
	}
}

// edits are values of which just one thing is another one than of v, at the top or within.
func edits(v api.Value) []api.Value {
	var l []api.Value
	edit := func(change func(x *api.Value)) {
		x := bare(v)
		change(&x)
		l = append(l, x)
	}
	for _, kind := range []int{v.Kind + 1, v.Kind - 1, -v.Kind, v.Kind ^ 1<<32, v.Kind ^ 256} {
		edit(func(x *api.Value) { x.Kind = kind })
	}
	for bit := range 64 {
		edit(func(x *api.Value) { x.Num ^= 1 << bit })
	}
	for _, s := range []string{v.Text + "a", v.Text + "\x00", "a" + v.Text, v.Text + "\xff"} {
		edit(func(x *api.Value) { x.Text = s })
	}
	for i := range len(v.Text) {
		edit(func(x *api.Value) { x.Text = x.Text[:i] })
		edit(func(x *api.Value) { x.Text = x.Text[:i] + string([]byte{x.Text[i] ^ 32}) + x.Text[i+1:] })
	}
	for _, tag := range []int{-1, 0, 1, 255, 256} {
		edit(func(x *api.Value) { x.Tags = append(x.Tags, tag) })
		edit(func(x *api.Value) { x.Tags = append([]int{tag}, x.Tags...) })
	}
	for i := range v.Tags {
		edit(func(x *api.Value) { x.Tags[i]++ })
		edit(func(x *api.Value) { x.Tags[i] = -x.Tags[i] })
		edit(func(x *api.Value) { x.Tags[i] ^= 1 << 40 })
		edit(func(x *api.Value) { x.Tags = slices.Delete(x.Tags, i, i+1) })
	}
	for i, item := range v.Items {
		edit(func(x *api.Value) { x.Items = x.Items[:i] })
		edit(func(x *api.Value) { x.Items[i] = api.Value{} })
		edit(func(x *api.Value) { x.Items = slices.Insert(x.Items, i, item, item) })
		for _, y := range edits(item) {
			edit(func(x *api.Value) { x.Items[i] = y })
		}
	}
	edit(func(x *api.Value) { x.Items = append(x.Items, api.Value{}) })
	edit(func(x *api.Value) { x.Items = append(x.Items, vInt(1)) })
	return slices.DeleteFunc(l, func(x api.Value) bool { return reflect.DeepEqual(x, bare(v)) })
}

// tree is a value that has all kinds within it.
func tree() api.Value {
	return vStruct(tags(1, 3, 4, 200),
		vList(vBool(1), vInt(-5), vUint(math.MaxUint64), vUnion(tags(9), vEnum(12))),
		vMap(vText("a"), vBytes("\xff"), vText("b"), vMap(vEnum(1), vList(), vEnum(2), vList(vText("x\n")))),
		vStruct(nil),
		vUnion(tags(255), vList(vMap(), vMap(vBool(0), vStruct(tags(2), vUnion(tags(1), vList(vInt(math.MinInt64))))))))
}

const treeText = `(1=[true,-5,18446744073709551615,<9=12>],3={"a":"\ff","b":{1:[],2:["x\0a"]}},4=(),200=<255=[{},{false:(2=<1=[-9223372036854775808]>)}]>)`

// 15.1: values in which just one thing is another, at the top and many levels deep; and what is told of them.
func TestOneThing(t *testing.T) {
	v := tree()
	isOne(t, one{v, true, 8, 27*8 + 5, treeText})
	l := edits(v)
	if len(l) < 1500 {
		t.Fatal(len(l))
	}
	wells := 0
	for _, x := range l {
		if Same(v, x) || Same(x, v) || !Same(x, bare(x)) {
			t.Fatalf("%v and %v", v, x)
		}
		heldPair(t, v, x)
		held(t, x)
		if Well(x) {
			wells++
		}
	}
	if wells < 100 || wells > len(l)/2 {
		t.Fatal(wells)
	}
}

// 15.1, 15.2: each two of all values, as they are, and within others, one and many levels deep.
func TestEachTwo(t *testing.T) {
	l := ones()
	for i, a := range l {
		for j, b := range l {
			if Same(a.v, b.v) != (i == j) {
				t.Fatalf("%v and %v: the same: %v", a.v, b.v, i != j)
			}
			heldPair(t, a.v, b.v)
			x, y := a.v, b.v
			for _, w := range wraps() {
				if Same(w.in(a.v), w.in(b.v)) != (i == j) {
					t.Fatalf("%v and %v", w.in(a.v), w.in(b.v))
				}
				if w.size > 0 {
					x, y = w.in(x), w.in(y)
				}
				if Same(x, y) != (i == j) {
					t.Fatalf("%v and %v", x, y)
				}
			}
		}
	}
}

// 15.1: items, and tags, in another order, and another one's.
func TestSameOrder(t *testing.T) {
	for _, l := range [][2]api.Value{
		{vList(vInt(1), vInt(2)), vList(vInt(2), vInt(1))},
		{vList(vList(), vInt(1)), vList(vInt(1), vList())},
		{vList(vList(vInt(1)), vList()), vList(vList(), vList(vInt(1)))},
		{vList(vInt(1), vInt(2)), vList(vInt(1))},
		{vList(vInt(1)), vInt(1)},
		{vMap(vInt(1), vInt(2)), vMap(vInt(2), vInt(1))},
		{vMap(vInt(1), vInt(2), vInt(3), vInt(4)), vMap(vInt(3), vInt(4), vInt(1), vInt(2))},
		{vMap(vInt(1), vInt(2)), vList(vInt(1), vInt(2))},
		{vStruct(tags(1, 2), vInt(1), vInt(2)), vStruct(tags(2, 1), vInt(2), vInt(1))},
		{vStruct(tags(1), vInt(1)), vUnion(tags(1), vInt(1))},
		{vStruct(tags(1), vInt(1)), vStruct(tags(2), vInt(1))},
		{vText("a"), vBytes("a")},
		{vInt(1), vUint(1)},
		{vInt(1), vEnum(1)},
		{vInt(-1), vUint(math.MaxUint64)},
		{{}, {Kind: 11}},
	} {
		if Same(l[0], l[1]) || Same(l[1], l[0]) || !Same(l[0], l[0]) || !Same(l[1], bare(l[1])) {
			t.Fatal(l)
		}
		heldPair(t, l[0], l[1])
	}
}

// 15.1, R3: lists that are nil or of length 0 are the same, of all kinds, at the top and within.
func TestEmptyLists(t *testing.T) {
	for kind := -1; kind <= 12; kind++ {
		v := api.Value{Kind: kind}
		l := []api.Value{v, hollow(v), {Kind: kind, Tags: []int{}}, {Kind: kind, Items: []api.Value{}}, {Kind: kind, Tags: make([]int, 0, 3), Items: make([]api.Value, 0, 3)}}
		for _, a := range l {
			held(t, a)
			for _, b := range l {
				if !Same(a, b) || Cmp(a, b) != 0 || Well(a) != Well(b) {
					t.Fatal(a, b)
				}
				for _, w := range wraps() {
					if !Same(w.in(w.in(a)), w.in(w.in(b))) {
						t.Fatal(a, b)
					}
				}
			}
		}
	}
}

// 15.1: items of unlike depth, the deepest at each place; of any kind.
func TestDeep(t *testing.T) {
	nest := func(n int) api.Value {
		v := vInt(1)
		for i := range n {
			if i%2 == 0 {
				v = vList(v)
			} else {
				v = vUnion(tags(1), v)
			}
		}
		return v
	}
	for n := range 40 {
		if d := Deep(nest(n)); d != n+1 {
			t.Fatal(n, d)
		}
	}
	for kind := -1; kind <= 12; kind++ {
		for n := range 6 {
			items := []api.Value{nest(1), nest(0), nest(2), nest(1)}
			for place := range items {
				l := slices.Clone(items)
				l[place] = nest(n)
				want := 2 + n
				for i, other := range []int{1, 0, 2, 1} {
					if i != place {
						want = max(want, 2+other)
					}
				}
				v := api.Value{Kind: kind, Tags: tags(1), Items: l}
				if d := Deep(v); d != want {
					t.Fatalf("Deep(%v) = %d, not %d", v, d, want)
				}
			}
		}
		if d := Deep(api.Value{Kind: kind, Text: "[[]]", Num: 5, Tags: tags(1, 2)}); d != 1 {
			t.Fatal(kind, d)
		}
	}
}

// 15.2: both ways round, by hand.
func TestCmp(t *testing.T) {
	for _, l := range []struct {
		a, b api.Value
		want int
	}{
		{vBool(0), vBool(1), -1},
		{vBool(1), vBool(1), 0},
		{vBool(1), vBool(2), -1},
		{vBool(-1), vBool(0), -1},
		{vInt(-1), vInt(1), -1},
		{vInt(math.MinInt64), vInt(math.MaxInt64), -1},
		{vInt(math.MinInt64), vInt(0), -1},
		{vInt(9), vInt(10), -1},
		{vInt(5), vInt(5), 0},
		{vUint(1), vUint(math.MaxUint64), -1},
		{vUint(0), vUint(math.MaxUint64), -1},
		{vUint(1<<63 - 1), vUint(1 << 63), -1},
		{vUint(1 << 63), vUint(1<<63 + 1), -1},
		{vUint(math.MaxUint64 - 1), vUint(math.MaxUint64), -1},
		{vUint(1 << 63), vUint(1 << 63), 0},
		{vEnum(-1), vEnum(10000), -1},
		{vEnum(9), vEnum(10), -1},
		{vEnum(math.MinInt64), vEnum(math.MaxInt64), -1},
		{vText(""), vText("\x00"), -1},
		{vText("a"), vText("a"), 0},
		{vText("a"), vText("aa"), -1},
		{vText("ab"), vText("b"), -1},
		{vText("B"), vText("a"), -1},
		{vText("10"), vText("9"), -1},
		{vText("\x7f"), vText("\x80"), -1},
		{vText("\x80"), vText("\xff"), -1},
		{vText("z"), vText("\xc3\xa4"), -1},
		{vText("\xef\xbf\xbd"), vText("\xf0\x9f\x98\x80"), -1},
		{vText("a\xff"), vText("a\xff\x00"), -1},
		// Of one kind that no key has.
		{vBytes("a"), vBytes("b"), 0},
		{vList(vInt(1)), vList(vInt(2)), 0},
		{vList(), vList(vInt(2)), 0},
		{vMap(), vMap(vInt(1), vInt(2)), 0},
		{vStruct(nil), vStruct(tags(1), vInt(2)), 0},
		{vUnion(tags(1), vInt(2)), vUnion(tags(2), vInt(1)), 0},
		{api.Value{Num: 1, Text: "a"}, api.Value{Num: 2, Text: "b"}, 0},
		{api.Value{Kind: 11, Num: 1}, api.Value{Kind: 11, Num: 2}, 0},
		{api.Value{Kind: -1, Num: 1}, api.Value{Kind: -1, Num: 2}, 0},
		// Of unlike kinds: by kind alone.
		{vBool(1), vInt(0), -1},
		{vInt(9), vUint(1), -1},
		{vUint(9), vText(""), -1},
		{vText("z"), vBytes("a"), -1},
		{vText("z"), vEnum(0), -1},
		{vBytes("z"), vEnum(0), -1},
		{vEnum(9), vList(), -1},
		{vList(vInt(1)), vMap(), -1},
		{vMap(vInt(1), vInt(1)), vStruct(nil), -1},
		{vStruct(tags(1), vInt(1)), vUnion(nil), -1},
		{api.Value{Num: 9}, vBool(0), -1},
		{vUnion(tags(1), vInt(1)), api.Value{Kind: 11}, -1},
		{api.Value{Kind: -1, Num: 9}, api.Value{Kind: 0}, -1},
		{api.Value{Kind: math.MinInt, Num: 9}, api.Value{Kind: math.MaxInt}, -1},
		// What a kind does not have counts for nothing.
		{api.Value{Kind: api.VInt, Num: 5, Text: "a", Tags: tags(1), Items: []api.Value{vInt(1)}}, vInt(5), 0},
		{api.Value{Kind: api.VText, Num: 5, Text: "a", Tags: tags(1), Items: []api.Value{vInt(1)}}, vText("a"), 0},
	} {
		if n, back := Cmp(l.a, l.b), Cmp(l.b, l.a); n != l.want || back != -l.want {
			t.Errorf("Cmp of %v and %v: %d, back %d, not %d", l.a, l.b, n, back, l.want)
		}
		heldPair(t, l.a, l.b)
	}
}

// 15.2: all pairs of kinds, of kinds that there are not, too.
func TestCmpKinds(t *testing.T) {
	for a := -3; a <= 14; a++ {
		for b := -3; b <= 14; b++ {
			for n := int64(-2); n <= 2; n++ {
				for _, s := range []string{"a", "b", "c"} {
					heldPair(t, api.Value{Kind: a, Num: 1, Text: "b"}, api.Value{Kind: b, Num: n, Text: s})
				}
			}
		}
	}
}

// 15.3: each byte from 0 to 255, in a text and in bytes, alone and among others.
func TestEachByte(t *testing.T) {
	all, allText := "", ""
	for c := range 256 {
		s := string([]byte{byte(c)})
		want := s
		if c < 32 || c == 34 || c == 92 || c > 126 {
			want = `\` + "0123456789abcdef"[c/16:c/16+1] + "0123456789abcdef"[c%16:c%16+1]
		}
		all, allText = all+s, allText+want
		for _, v := range []api.Value{vText(s), vBytes(s)} {
			isOne(t, one{v, v.Kind == api.VBytes || c < 128, 1, 9, `"` + want + `"`})
			v.Text = "a" + s + s + "0"
			isOne(t, one{v, v.Kind == api.VBytes || c < 128, 1, 12, `"a` + want + want + `0"`})
			held(t, v)
		}
	}
	isOne(t, one{vBytes(all), true, 1, 264, `"` + allText + `"`})
	isOne(t, one{vText(all), false, 1, 264, `"` + allText + `"`})
	for a := range 256 {
		for b := range 256 {
			s := string([]byte{byte(a), byte(b)})
			v := vText(s)
			if Well(v) != naiveWell(v) || !Well(vBytes(s)) || Text(v) != naiveText(v) || Text(vBytes(s)) != naiveText(v) {
				t.Fatalf("%q", s)
			}
		}
	}
}

// 15.3: each kind that is none of the ten, whatever it has; at the top and within.
func TestOtherKinds(t *testing.T) {
	for _, kind := range []int{0, -1, -2, -10, 11, 12, 99, 255, 256, 257, 266, 1<<32 + 1, 1<<32 + 7, math.MinInt, math.MinInt + 7, math.MaxInt} {
		for _, v := range []api.Value{{}, {Num: 1}, {Text: "a"}, {Items: []api.Value{vInt(1)}}, {Num: -5, Text: "ab", Tags: tags(1), Items: []api.Value{vInt(1)}}} {
			v.Kind = kind
			if Well(v) || Text(v) != "?" {
				t.Fatal(v)
			}
			held(t, v)
			for _, w := range wraps() {
				x := w.in(v)
				if Well(x) || !strings.Contains(Text(x), "?") {
					t.Fatal(x)
				}
				held(t, x)
				held(t, w.in(x))
			}
			held(t, vMap(v, vInt(1)))
		}
	}
}

// 15.3: what is told counts all that a value has, whatever its kind has.
func TestSize(t *testing.T) {
	for kind := -1; kind <= 12; kind++ {
		for n := range 30 {
			v := api.Value{Kind: kind, Num: 99, Tags: make([]int, n%4), Text: strings.Repeat("\xff", n)}
			if s := Size(v); s != 8+n {
				t.Fatal(kind, s)
			}
			v.Items = slices.Repeat([]api.Value{{Kind: kind, Text: "ab"}}, n)
			if s := Size(v); s != 8+n+10*n {
				t.Fatal(kind, s)
			}
			v.Items = append(v.Items, vList(v, v))
			if s := Size(v); s != 8+n+10*n+8+2*(8+n+10*n) {
				t.Fatal(kind, s)
			}
		}
	}
}

// behind is a value whose lists, and whose items' lists, lie in longer ones: something lies behind their ends.
func behind(v api.Value) api.Value {
	v.Tags = append(append([]int{}, v.Tags...), 77, 78)[:len(v.Tags)]
	var items []api.Value
	for _, x := range v.Items {
		items = append(items, behind(x))
	}
	v.Items = append(items, vInt(77), vText("\xff"), vList(vInt(78)))[:len(v.Items)]
	return v
}

// R4: what is handed in stays as it was, and what lies behind its lists' ends, which counts for nothing.
func TestStay(t *testing.T) {
	l := []one{{tree(), true, 8, 27*8 + 5, treeText}}
	for _, o := range append(l, ones()...) {
		v, w := behind(o.v), behind(o.v)
		wasV, wasW := whole(v), whole(w)
		isOne(t, one{v, o.well, o.deep, o.size, o.text})
		if !Same(v, w) || Cmp(v, w) != 0 || !Same(o.v, v) || Same(vList(v), w) {
			t.Fatal(v)
		}
		if !reflect.DeepEqual(whole(v), wasV) || !reflect.DeepEqual(whole(w), wasW) {
			t.Fatalf("%v: it was %v ahead", v, wasV)
		}
	}
}

// shared tells whether two texts have bytes in common.
func shared(a, b string) bool {
	x, y := uintptr(unsafe.Pointer(unsafe.StringData(a))), uintptr(unsafe.Pointer(unsafe.StringData(b)))
	return len(a) > 0 && len(b) > 0 && x < y+uintptr(len(b)) && y < x+uintptr(len(a))
}

// R4: a text is own memory, and nothing that was handed in is kept.
func TestOwnMemory(t *testing.T) {
	b := []byte("abcdefgh")
	s := unsafe.String(&b[0], len(b))
	for _, v := range []api.Value{vText(s), vBytes(s), vList(vText(s)), vMap(vText(s), vBytes(s)), vUnion(tags(1), vBytes(s))} {
		x, y := Text(v), Text(v)
		if x != naiveText(v) || shared(x, s) || shared(x, y) {
			t.Fatalf("%q and %q share memory", x, y)
		}
		want := strings.Clone(x)
		copy(b, "zyxwvuts")
		if x != want || Text(v) != strings.ReplaceAll(want, "abcdefgh", "zyxwvuts") {
			t.Fatalf("%q was %q", x, want)
		}
		copy(b, "abcdefgh")
	}
	v := tree()
	x := Text(v)
	v.Tags[0] = 2
	v.Items[0].Items[1].Num = 4
	if x != treeText || Text(v) != "(2=[true,4"+treeText[len("(1=[true,-5"):] {
		t.Fatal(x, Text(v))
	}
}

// questions are all that may be asked of some values.
func questions() []func() any {
	var l []func() any
	some := []api.Value{tree(), {}, vBool(1), vInt(-7), vUint(math.MaxUint64), vEnum(10000), vText("a\n"), vText("\xff"), vBytes("\xff"), vList(vInt(1)), vMap(vInt(2), vInt(1), vInt(1), vInt(1)), vStruct(tags(1)), vUnion(tags(1), vInt(1))}
	for _, a := range some {
		l = append(l, func() any { return Well(a) }, func() any { return Deep(a) }, func() any { return Size(a) }, func() any { return Text(a) })
		for _, b := range some {
			l = append(l, func() any { return Same(a, b) }, func() any { return Cmp(a, b) })
		}
	}
	return l
}

// R5: the same is answered each time, whichever is asked first.
func TestAnyOrder(t *testing.T) {
	var want []any
	for _, ask := range questions() {
		want = append(want, ask())
	}
	r := rand.New(rand.NewSource(15))
	for range 60 {
		all := questions()
		for _, i := range append(r.Perm(len(all)), r.Perm(len(all))...) {
			if got := all[i](); got != want[i] {
				t.Fatalf("%d: %v, not %v", i, got, want[i])
			}
		}
	}
}

// R5: whoever asks at the same time is answered the same.
func TestAtOnce(t *testing.T) {
	all := questions()
	var want []any
	for _, ask := range all {
		want = append(want, ask())
	}
	for range 30 {
		got := make([][]any, 8)
		var wait sync.WaitGroup
		for i := range got {
			wait.Go(func() {
				for j := range all {
					got[i] = append(got[i], all[(i*7+j)%len(all)]())
				}
			})
		}
		wait.Wait()
		for i, answers := range got {
			for j, answer := range answers {
				if answer != want[(i*7+j)%len(all)] {
					t.Fatalf("%v, not %v", answer, want[(i*7+j)%len(all)])
				}
			}
		}
	}
}

// nested is a value within so many others, of each kind by turns.
func nested(v api.Value, n int) api.Value {
	for i := range n {
		switch i % 4 {
		case 0:
			v = vList(v)
		case 1:
			v = vMap(vText("k"), v)
		case 2:
			v = vStruct(tags(3), v)
		case 3:
			v = vUnion(tags(4), v)
		}
	}
	return v
}

// R1: values as deep as the document's bound lets them be.
func TestManyDeep(t *testing.T) {
	const n = 1<<16 - 4
	v := nested(vInt(1), n)
	text := strings.Repeat(`<4=(3={"k":[`, n/4) + "1" + strings.Repeat("]})>", n/4)
	isOne(t, one{v, true, n + 1, 8 + n/4*(8+17+8+8), text})
	ill := nested(vBool(2), n)
	if Well(ill) || Same(v, ill) || Same(ill, v) || !Same(v, nested(vInt(1), n)) || Same(v, vList(v)) || Cmp(v, ill) != 0 {
		t.Fatal("it is another one deep within")
	}
	if s := Text(ill); s != strings.Replace(text, "1", "true", 1) {
		t.Fatal(len(s))
	}
}

// R1: values of many items, and of long texts.
func TestWide(t *testing.T) {
	const n = 200000
	l, m := vList(), vMap()
	for i := range n {
		l.Items = append(l.Items, vInt(int64(-i)))
		m.Items = append(m.Items, vUint(uint64(i)<<40), vBool(1))
	}
	s := vBytes(strings.Repeat("a\xff", n))
	v := vStruct(tags(1, 2, 3), l, m, s)
	if !Well(v) || Deep(v) != 3 || Size(v) != 4*8+n*8+n*16+2*n || !Same(v, bare(v)) {
		t.Fatal(Deep(v), Size(v))
	}
	if x := Text(v); !strings.HasPrefix(x, "(1=[0,-1,-2,") || !strings.HasSuffix(x, `:true},3="`+strings.Repeat(`a\ff`, n)+`")`) {
		t.Fatal(len(x))
	}
	m.Items[2*n-2].Num = m.Items[2*n-4].Num
	if Well(v) {
		t.Fatal("two keys are alike")
	}
}

// R1: values that have themselves within them have answers, too.
func TestEndless(t *testing.T) {
	l := make([]api.Value, 3)
	for i, kind := range []int{api.VList, api.VMap, api.VStruct} {
		l[i] = api.Value{Kind: kind, Tags: tags(1, 2, 3), Items: l}
	}
	m := make([]api.Value, 1)
	m[0] = vList(vInt(1), vList(m...))
	for _, v := range []api.Value{l[0], l[1], l[2], vList(vInt(1), l[2]), m[0], vMap(vInt(1), m[0])} {
		if Well(v) || Same(v, v) || Same(v, vList()) || Same(vList(), v) || Cmp(v, v) != 0 || Deep(v) != 0 || Size(v) != 0 || Text(v) != "" {
			t.Fatal("it has no end")
		}
	}
}

// chance makes values by chance.
type chance struct {
	*rand.Rand
}

// num is a number, often one of few.
func (r chance) num() int64 {
	switch r.Intn(4) {
	case 0:
		return int64(r.Uint64())
	case 1:
		return int64(1) << r.Intn(64)
	}
	return int64(r.Intn(6)) - 1
}

// text is a short one, often right.
func (r chance) text() string {
	s := ""
	for range r.Intn(4) {
		s += []string{"a", "b", "\"", "\xc3\xa4", "\n", "\\", "z", "a", "\xff"}[r.Intn(9)]
	}
	return s
}

// key is one of a kind that keys may have, well.
func (r chance) key(kind int) api.Value {
	switch kind {
	case api.VBool:
		return vBool(int64(r.Intn(2)))
	case api.VEnum:
		return vEnum(int64(r.Intn(10000)))
	case api.VText:
		return vText(strings.ToValidUTF8(r.text(), "?"))
	}
	return api.Value{Kind: kind, Num: r.num()}
}

// table is a map, well if its values are.
func (r chance) table(deep int) api.Value {
	kind := []int{api.VBool, api.VInt, api.VUint, api.VEnum, api.VText}[r.Intn(5)]
	var keys []api.Value
	for range r.Intn(5) {
		keys = append(keys, r.key(kind))
	}
	slices.SortFunc(keys, naiveCmp)
	keys = slices.CompactFunc(keys, func(a, b api.Value) bool { return naiveCmp(a, b) == 0 })
	m := vMap()
	for _, k := range keys {
		m.Items = append(m.Items, k, r.value(deep))
	}
	return m
}

// value is one that is well.
func (r chance) value(deep int) api.Value {
	n := 6
	if deep > 0 {
		n = 12
	}
	switch kind := r.Intn(n); kind {
	case 0, 1, 2, 3:
		return r.key([]int{api.VBool, api.VInt, api.VUint, api.VEnum}[kind])
	case 4:
		return r.key(api.VText)
	case 5:
		return vBytes(r.text())
	case 6, 7:
		return r.table(deep - 1)
	case 8:
		return vUnion(tags(1+r.Intn(255)), r.value(deep-1))
	case 9, 10:
		v := vStruct(nil)
		for tag := r.Intn(9) + 1; tag < 256 && len(v.Items) < 4; tag += 1 + r.Intn(120) {
			v.Tags, v.Items = append(v.Tags, tag), append(v.Items, r.value(deep-1))
		}
		return v
	}
	v := vList()
	for range r.Intn(4) {
		v.Items = append(v.Items, r.value(deep-1))
	}
	return v
}

// spoilt is a value with something another one, at the top or within; it may be well yet.
func (r chance) spoilt(v api.Value) api.Value {
	v = bare(v)
	x := &v
	for len(x.Items) > 0 && r.Intn(3) > 0 {
		x = &x.Items[r.Intn(len(x.Items))]
	}
	switch r.Intn(7) {
	case 0:
		x.Kind = r.Intn(13) - 1
	case 1:
		x.Num = r.num()
	case 2:
		x.Text = r.text()
	case 3:
		x.Tags = append(x.Tags, r.Intn(258))
	case 4:
		x.Items = append(x.Items, r.value(1))
	case 5:
		r.Shuffle(len(x.Items), func(i, j int) { x.Items[i], x.Items[j] = x.Items[j], x.Items[i] })
	case 6:
		x.Tags, x.Items = x.Tags[:len(x.Tags)/2], x.Items[:len(x.Items)/2]
	}
	return v
}

// heldChance asks of a value by chance, of what is made of it, and of both against each other; it tells whether the latter is well.
func heldChance(t *testing.T, r chance) bool {
	t.Helper()
	v := r.value(r.Intn(5))
	if !Well(v) {
		t.Fatalf("%v is well", v)
	}
	x := r.spoilt(v)
	if r.Intn(3) == 0 {
		x = r.spoilt(x)
	}
	held(t, v)
	held(t, x)
	heldPair(t, v, x)
	heldPair(t, r.value(1), r.value(1))
	return Well(x)
}

// 15.1 to 15.4: values by chance.
func TestByChance(t *testing.T) {
	r := chance{rand.New(rand.NewSource(1504))}
	told := map[bool]int{}
	for range 30000 {
		told[heldChance(t, r)]++
	}
	if told[true] < 3000 || told[false] < 3000 {
		t.Fatal(told)
	}
}

// 15.4: many keys by chance, each two of one kind.
func TestKeysByChance(t *testing.T) {
	r := chance{rand.New(rand.NewSource(154))}
	for _, kind := range []int{api.VBool, api.VInt, api.VUint, api.VEnum, api.VText} {
		var keys []api.Value
		for range 400 {
			keys = append(keys, r.key(kind))
		}
		for i, a := range keys {
			for _, b := range keys[:i] {
				alike := fmt.Sprint(a.Num, " ", a.Text) == fmt.Sprint(b.Num, " ", b.Text)
				if (Cmp(a, b) == 0) != alike || (Text(a) == Text(b)) != alike || Same(a, b) != alike {
					t.Fatalf("%v and %v", a, b)
				}
			}
		}
	}
}

func FuzzValue(f *testing.F) {
	for kind := range 12 {
		f.Add(kind, int64(1), "a", int64(kind))
		f.Add(kind, int64(-1), "\xff", int64(kind))
	}
	f.Fuzz(func(t *testing.T, kind int, n int64, s string, seed int64) {
		r := chance{rand.New(rand.NewSource(seed))}
		v := api.Value{Kind: kind, Num: n, Text: s}
		held(t, v)
		held(t, api.Value{Kind: kind, Tags: tags(int(n)), Items: []api.Value{v}})
		heldPair(t, v, api.Value{Kind: kind, Num: r.num(), Text: r.text()})
		heldPair(t, v, r.spoilt(v))
		heldChance(t, r)
	})
}
