package fit

import (
	"math"
	"reflect"
	"slices"
	"testing"

	"concourse/api"
	"concourse/desc"
	"concourse/value"
)

// complaint is one thing that is wrong with a value. Its place are the steps that lead to it, from the outside to the inside.
type complaint struct {
	place []int
	err   api.Errno
}

// steps are a place, and one step more: to the tag of an item, to an item, or behind all items.
func toTag(place []int, i int) []int  { return append(slices.Clone(place), 2*i) }
func toItem(place []int, i int) []int { return append(slices.Clone(place), 2*i+1) }
func toEnd(place []int) []int         { return append(slices.Clone(place), math.MaxInt) }

// naiveType is a type without TOpts around it, and the declaration that it names, if it does.
func naiveType(l []api.Decl, x api.Type) (api.Type, api.Decl) {
	for x.Kind == api.TOpt && len(x.Of) == 1 {
		x = x.Of[0]
	}
	for _, d := range l {
		if x.Kind == api.TNamed && d.Name == x.Name {
			return x, d
		}
	}
	return x, api.Decl{}
}

// naiveKind is the kind of a type's values; 0: the type is none of the schema's.
func naiveKind(x api.Type, d api.Decl) int {
	switch x.Kind {
	case api.TNamed:
		return map[int]int{api.DStruct: api.VStruct, api.DUnion: api.VUnion, api.DEnum: api.VEnum}[d.Kind]
	case api.TList, api.TMap, api.TOpt:
		return map[[2]int]int{{api.TList, 1}: api.VList, {api.TMap, 2}: api.VMap}[[2]int{x.Kind, len(x.Of)}]
	}
	return map[int]int{api.TBool: api.VBool, api.TInt: api.VInt, api.TUint: api.VUint, api.TText: api.VText, api.TBytes: api.VBytes}[x.Kind]
}

// complaints are all things that are wrong with a value of a type; those of one value that is another one's item are looked for from the last one on.
func complaints(l []api.Decl, x api.Type, v api.Value, place []int) []complaint {
	x, d := naiveType(l, x)
	kind := naiveKind(x, d)
	if kind == 0 {
		return []complaint{{place, api.ErrType}}
	}
	if kind != v.Kind {
		return []complaint{{place, api.ErrKind}}
	}
	var found []complaint
	if kind == api.VEnum && len(tagged(d, int(v.Num))) == 0 {
		found = append(found, complaint{place, api.ErrTag})
	}
	for _, f := range d.Fields {
		if kind == api.VStruct && f.Type.Kind != api.TOpt && !slices.Contains(v.Tags, f.Tag) {
			found = append(found, complaint{toEnd(place), api.ErrNone})
		}
	}
	for i := len(v.Items) - 1; i >= 0; i-- {
		var of []api.Type
		switch kind {
		case api.VList, api.VMap:
			of = []api.Type{x.Of[i%len(x.Of)]}
		case api.VStruct, api.VUnion:
			of = tagged(d, v.Tags[i])
		}
		if len(of) == 0 {
			found = append(found, complaint{toTag(place, i), api.ErrTag})
		}
		for _, y := range of {
			found = append(found, complaints(l, y, v.Items[i], toItem(place, i))...)
		}
	}
	return found
}

// tagged are the types of the rows of a tag: none, or one.
func tagged(d api.Decl, tag int) []api.Type {
	var of []api.Type
	for _, f := range d.Fields {
		if f.Tag == tag {
			of = append(of, f.Type)
		}
	}
	return of
}

// naiveFits is the first of all complaints.
func naiveFits(l []api.Decl, x api.Type, v api.Value) api.Errno {
	if !value.Well(v) {
		return api.ErrForm
	}
	if value.Deep(v) > 8 {
		return api.ErrDeep
	}
	found := complaints(l, x, v, nil)
	if len(found) == 0 {
		return api.OK
	}
	return slices.MinFunc(found, func(a, b complaint) int { return slices.Compare(a.place, b.place) }).err
}

// naiveStruct is the answer of a struct's name.
func naiveStruct(l []api.Decl, name string, v api.Value) api.Errno {
	for _, d := range l {
		if d.Name == name && d.Kind == api.DStruct {
			return naiveFits(l, named(name), v)
		}
	}
	return api.ErrType
}

// wholeValue is a value in memory of its own, with what lies behind its lists' ends.
func wholeValue(v api.Value) api.Value {
	v.Tags = slices.Clone(v.Tags[:cap(v.Tags)])
	v.Items = slices.Clone(v.Items[:cap(v.Items)])
	for i, x := range v.Items {
		v.Items[i] = wholeValue(x)
	}
	return v
}

// wholeType is the same of a type.
func wholeType(x api.Type) api.Type {
	x.Of = slices.Clone(x.Of[:cap(x.Of)])
	for i, y := range x.Of {
		x.Of[i] = wholeType(y)
	}
	return x
}

// hollow is a value in memory of its own, whose lists that are empty are of length 0, if full is, or else nil.
func hollow(v api.Value, full bool) api.Value {
	tags, items := []int{}, []api.Value{}
	if !full {
		tags, items = nil, nil
	}
	v.Tags = append(tags, v.Tags...)
	for _, x := range v.Items {
		items = append(items, hollow(x, full))
	}
	v.Items = items
	return v
}

// held asks whether what is asked of a value, and of a type, is answered as the model says, however its empty lists are; and both stay as they were. It tells the answer.
func held(t *testing.T, d *desc.Desc, x api.Type, v api.Value) api.Errno {
	t.Helper()
	l := d.Decls()
	aheadValue, aheadType := wholeValue(v), wholeType(x)
	want := naiveFits(l, x, v)
	for _, y := range []api.Value{v, hollow(v, false), hollow(v, true)} {
		if e := Fits(d, x, y); e != want {
			t.Fatalf("Fits of %v and %v, by %v: %v, not %v", x, y, l, e, want)
		}
	}
	for _, name := range []string{x.Name, "S", ""} {
		if e, want := Struct(d, name, v), naiveStruct(l, name, v); e != want {
			t.Fatalf("Struct of %q and %v, by %v: %v, not %v", name, v, l, e, want)
		}
	}
	if !reflect.DeepEqual(wholeValue(v), aheadValue) || !reflect.DeepEqual(wholeType(x), aheadType) || !reflect.DeepEqual(d.Decls(), l) {
		t.Fatalf("%v, %v or %v: it was another one ahead", x, v, l)
	}
	return want
}
