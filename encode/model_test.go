package encode

import (
	"reflect"
	"slices"
	"testing"

	"concourse/api"
	"concourse/desc"
	"concourse/fit"
	"concourse/value"
)

// number is a number's bytes: seven bits a byte, the lowest first.
func number(n uint64) string {
	if n < 128 {
		return string([]byte{byte(n)})
	}
	return string([]byte{byte(n%128 + 128)}) + number(n/128)
}

// turned is the bytes of a number with a sign: of 2n, or, below 0, of -2n - 1.
func turned(n int64) string {
	if n < 0 {
		return number(2*uint64(-1-n) + 1)
	}
	return number(2 * uint64(n))
}

// spanned is a text with its length ahead.
func spanned(s string) string { return number(uint64(len(s))) + s }

// plain is a type without TOpts around it, and the declaration that it names, if it does.
func plain(l []api.Decl, x api.Type) (api.Type, api.Decl) {
	for x.Kind == api.TOpt {
		x = x.Of[0]
	}
	for _, d := range l {
		if x.Kind == api.TNamed && d.Name == x.Name {
			return x, d
		}
	}
	return x, api.Decl{}
}

// isNumber tells whether values of a type are written as a number's bytes.
func isNumber(l []api.Decl, x api.Type) bool {
	x, d := plain(l, x)
	return slices.Contains([]int{api.TBool, api.TInt, api.TUint}, x.Kind) || d.Kind == api.DEnum
}

// rowType is the type of the row of a tag.
func rowType(d api.Decl, tag int) (api.Type, bool) {
	for _, f := range d.Fields {
		if f.Tag == tag {
			return f.Type, true
		}
	}
	return api.Type{}, false
}

// modelInside is the inside of a value of a type, as the types tell it: what the value's kinds are counts for nothing.
func modelInside(l []api.Decl, x api.Type, v api.Value) string {
	x, d := plain(l, x)
	s := ""
	switch x.Kind {
	case api.TBool, api.TUint:
		return number(uint64(v.Num))
	case api.TInt:
		return turned(v.Num)
	case api.TText, api.TBytes:
		return v.Text
	case api.TList, api.TMap:
		for i, item := range v.Items {
			s += modelContent(l, x.Of[i%len(x.Of)], item)
		}
		return s
	}
	if d.Kind == api.DEnum {
		return number(uint64(v.Num))
	}
	for i, tag := range v.Tags {
		y, _ := rowType(d, tag)
		wire := 1
		if isNumber(l, y) {
			wire = 0
		}
		s += number(uint64(2*tag+wire)) + modelContent(l, y, v.Items[i])
	}
	return s
}

// modelContent is the content of a value of a type.
func modelContent(l []api.Decl, x api.Type, v api.Value) string {
	s := modelInside(l, x, v)
	if isNumber(l, x) {
		return s
	}
	return spanned(s)
}

// taker takes values back of the bytes that are left.
type taker struct {
	l    []api.Decl
	left string
}

func (b *taker) number() uint64 {
	c := uint64(b.left[0])
	b.left = b.left[1:]
	if c < 128 {
		return c
	}
	return c - 128 + 128*b.number()
}

func (b *taker) span() *taker {
	n := b.number()
	s := b.left[:n]
	b.left = b.left[n:]
	return &taker{b.l, s}
}

// content takes the value of a type whose content is ahead.
func (b *taker) content(x api.Type) api.Value {
	if isNumber(b.l, x) {
		return b.inside(x)
	}
	return b.span().inside(x)
}

// inside takes the value of a type whose inside is all that is left, or, of a number, whose content is ahead.
func (b *taker) inside(x api.Type) api.Value {
	x, d := plain(b.l, x)
	switch x.Kind {
	case api.TBool:
		return vBool(int64(b.number()))
	case api.TInt:
		n := b.number()
		if n%2 == 1 {
			return vInt(-1 - int64(n/2))
		}
		return vInt(int64(n / 2))
	case api.TUint:
		return vUint(b.number())
	case api.TText:
		return vText(b.left)
	case api.TBytes:
		return vBytes(b.left)
	case api.TList, api.TMap:
		v := api.Value{Kind: map[int]int{api.TList: api.VList, api.TMap: api.VMap}[x.Kind]}
		for len(b.left) > 0 {
			v.Items = append(v.Items, b.content(x.Of[len(v.Items)%len(x.Of)]))
		}
		return v
	}
	if d.Kind == api.DEnum {
		return vEnum(int64(b.number()))
	}
	v := api.Value{Kind: map[int]int{api.DStruct: api.VStruct, api.DUnion: api.VUnion}[d.Kind]}
	for len(b.left) > 0 {
		tag := int(b.number() / 2)
		y, _ := rowType(d, tag)
		v.Tags, v.Items = append(v.Tags, tag), append(v.Items, b.content(y))
	}
	return v
}

// wholeValue is a value in memory of its own, with what lies behind its lists' ends.
func wholeValue(v api.Value) api.Value {
	v.Tags = slices.Clone(v.Tags[:cap(v.Tags)])
	v.Items = slices.Clone(v.Items[:cap(v.Items)])
	for i, x := range v.Items {
		v.Items[i] = wholeValue(x)
	}
	return v
}

// wholeType is the same of a type.
func wholeType(x api.Type) api.Type {
	x.Of = slices.Clone(x.Of[:cap(x.Of)])
	for i, y := range x.Of {
		x.Of[i] = wholeType(y)
	}
	return x
}

// another is the same value in memory of its own: lists that are empty are of length 0, if full is, or else nil; behind their ends, if full is, there is something.
func another(v api.Value, full bool) api.Value {
	var tags []int
	var items []api.Value
	if full {
		tags, items = make([]int, 0, len(v.Tags)+2), make([]api.Value, 0, len(v.Items)+2)
		tags[:1][0], items[:1][0] = 77, vUint(77)
	}
	for _, x := range v.Items {
		items = append(items, another(x, full))
	}
	v.Tags, v.Items = append(tags, v.Tags...), items
	if full {
		more := append(v.Items, vList(vBool(2)))
		v.Items = more[:len(v.Items)]
	}
	return v
}

// held asks whether what is asked of a value, and of a type, is answered as the model says, however its empty lists are; and both stay as they were. It tells the answer of Inside.
func held(t *testing.T, d *desc.Desc, x api.Type, v api.Value) (string, api.Errno) {
	t.Helper()
	l := d.Decls()
	e := fit.Fits(d, x, v)
	want := ""
	if e == api.OK {
		want = modelInside(l, x, v)
		b := &taker{l, want}
		if back := b.inside(x); !value.Same(back, v) {
			t.Fatalf("%v of %v, by %v: taken back as %v", v, x, l, back)
		}
	}
	aheadType := wholeType(x)
	for _, y := range []api.Value{v, another(v, false), another(v, true)} {
		ahead := wholeValue(y)
		if s, e2 := Inside(d, x, y); s != want || e2 != e {
			t.Fatalf("Inside of %v and %v, by %v: %v, %v, not %v, %v", x, y, l, []byte(s), e2, []byte(want), e)
		}
		for _, name := range []string{x.Name, "P", "S", ""} {
			heldStruct(t, d, name, y)
		}
		if !reflect.DeepEqual(wholeValue(y), ahead) {
			t.Fatalf("%v: it was %v ahead", y, ahead)
		}
	}
	if !reflect.DeepEqual(wholeType(x), aheadType) || !reflect.DeepEqual(d.Decls(), l) {
		t.Fatalf("%v, or %v: it was another one ahead", x, l)
	}
	return want, e
}

// heldStruct asks whether what is asked of a struct's name, and of a value, is answered as the model says. It tells the answer.
func heldStruct(t *testing.T, d *desc.Desc, name string, v api.Value) (string, api.Errno) {
	t.Helper()
	e := fit.Struct(d, name, v)
	want := ""
	if e == api.OK {
		want = modelInside(d.Decls(), named(name), v)
	}
	if len(want) > 1024 {
		want, e = "", api.ErrLong
	}
	if s, e2 := Encode(d, name, v); s != want || e2 != e {
		t.Fatalf("Encode of %q and %v, by %v: %v, %v, not %v, %v", name, v, d.Decls(), []byte(s), e2, []byte(want), e)
	}
	return want, e
}
