package blank

import (
	"math"
	"reflect"
	"slices"
	"testing"

	"concourse/api"
	"concourse/desc"
	"concourse/fit"
	"concourse/value"
)

// model has the blank values of declarations as the chapter's words tell them, from the least depth on: by[n] are those by a depth of n. They share memory. And it has how deep the least deep values are.
type model struct {
	l    []api.Decl
	by   []map[string]api.Value
	deep map[string]int
}

func modelOf(l []api.Decl) model {
	m := model{l: l, deep: depths(l)}
	for n := range 9 {
		m.by = append(m.by, map[string]api.Value{})
		for _, d := range l {
			if v, ok := m.declared(d, n); ok {
				m.by[n][d.Name] = v
			}
		}
	}
	return m
}

// value is the blank value of a type by a depth, if there is one.
func (m model) value(x api.Type, n int) (api.Value, bool) {
	if n == 0 {
		return api.Value{}, false
	}
	if x.Kind == api.TOpt && len(x.Of) == 1 {
		return m.value(x.Of[0], n)
	}
	if x.Kind == api.TNamed {
		v, ok := m.by[n][x.Name]
		return v, ok
	}
	kind := map[[2]int]int{
		{api.TBool, 0}:  api.VBool,
		{api.TInt, 0}:   api.VInt,
		{api.TUint, 0}:  api.VUint,
		{api.TText, 0}:  api.VText,
		{api.TBytes, 0}: api.VBytes,
		{api.TList, 1}:  api.VList,
		{api.TMap, 2}:   api.VMap,
	}[[2]int{x.Kind, len(x.Of)}]
	return api.Value{Kind: kind}, kind != 0
}

// declared is that of a declaration; those by depths that are less deep must be known.
func (m model) declared(d api.Decl, n int) (api.Value, bool) {
	if n == 0 {
		return api.Value{}, false
	}
	v, whole := vStruct(nil), true
	for tag := range 10000 {
		for _, f := range d.Fields {
			if f.Tag != tag {
				continue
			}
			if d.Kind == api.DEnum {
				return vEnum(int64(tag)), true
			}
			x, ok := m.value(f.Type, n-1)
			if d.Kind == api.DUnion && ok {
				return vUnion(tag, x), true
			}
			if f.Type.Kind != api.TOpt {
				whole = whole && ok
				v.Tags, v.Items = append(v.Tags, tag), append(v.Items, x)
			}
		}
		if tag > 255 && d.Kind != api.DEnum {
			break
		}
	}
	return v, whole && d.Kind == api.DStruct
}

// least is the blank value of a type by the least depth, and that depth.
func (m model) least(x api.Type) (api.Value, int) {
	for n := 1; n < 9; n++ {
		if v, ok := m.value(x, n); ok {
			return v, n
		}
	}
	return api.Value{}, 0
}

const endless = math.MaxInt32

// depths are how deep the least deep values of declarations are, without any bound: guesses that are too great are made less, until none can be.
func depths(l []api.Decl) map[string]int {
	deep := map[string]int{}
	for changed := true; changed; {
		changed = false
		for _, d := range l {
			all := []int{}
			for _, f := range d.Fields {
				if d.Kind != api.DStruct || f.Type.Kind != api.TOpt {
					all = append(all, depth(deep, f.Type))
				}
			}
			n := 1
			switch {
			case d.Kind == api.DStruct && len(all) > 0:
				n += slices.Max(all)
			case d.Kind == api.DUnion:
				n += slices.Min(all)
			case d.Kind == api.DService:
				n = endless
			}
			if old, ok := deep[d.Name]; n < endless && (!ok || n < old) {
				deep[d.Name], changed = n, true
			}
		}
	}
	return deep
}

// depth is the same of a type.
func depth(deep map[string]int, x api.Type) int {
	switch {
	case x.Kind == api.TNamed:
		if n, ok := deep[x.Name]; ok {
			return n
		}
	case x.Kind == api.TOpt && len(x.Of) == 1:
		return depth(deep, x.Of[0])
	case slices.Contains([][2]int{{1, 0}, {2, 0}, {3, 0}, {4, 0}, {5, 0}, {7, 1}, {8, 2}}, [2]int{x.Kind, len(x.Of)}):
		return 1
	}
	return endless
}

// wholeType is a type in memory of its own, with what lies behind its lists' ends.
func wholeType(x api.Type) api.Type {
	x.Of = slices.Clone(x.Of[:cap(x.Of)])
	for i, y := range x.Of {
		x.Of[i] = wholeType(y)
	}
	return x
}

// bared tells whether each thing that a value's kind has not is a zero value.
func bared(v api.Value) bool {
	switch v.Kind {
	case api.VStruct, api.VUnion:
		return v.Num == 0 && v.Text == "" && len(v.Tags) == len(v.Items) && !slices.ContainsFunc(v.Items, func(x api.Value) bool { return !bared(x) })
	}
	return v.Text == "" && len(v.Tags) == 0 && len(v.Items) == 0 && (v.Kind == api.VEnum || v.Num == 0)
}

// held asks whether what is asked of a type is answered as the model says, and what follows of it; and the type and the schema stay as they were. It tells the depth.
func held(t *testing.T, d *desc.Desc, x api.Type) int {
	t.Helper()
	return heldBy(t, d, modelOf(d.Decls()), x)
}

// heldBy is the same by a model that is the schema's.
func heldBy(t *testing.T, d *desc.Desc, m model, x api.Type) int {
	t.Helper()
	ahead := wholeType(x)
	want, wantDepth := m.least(x)
	v, n := Type(d, x)
	if n != wantDepth || !value.Same(v, want) {
		t.Fatalf("Type of %v, by %v: %s, %d, not %s, %d", x, m.l, value.Text(v), n, value.Text(want), wantDepth)
	}
	if n == 0 && !reflect.DeepEqual(v, api.Value{}) {
		t.Fatalf("Type of %v, by %v: %v, of which there is none", x, m.l, v)
	}
	if least := depth(m.deep, x); least != n && (n != 0 || least <= 8) {
		t.Fatalf("Type of %v, by %v: a depth of %d, the least is %d", x, m.l, n, least)
	}
	if n > 0 && (!value.Well(v) || !bared(v) || value.Deep(v) != n || fit.Fits(d, x, v) != api.OK) {
		t.Fatalf("Type of %v, by %v: %s, %d: it is none of it", x, m.l, value.Text(v), n)
	}
	heldName(t, d, m, x.Name)
	if !reflect.DeepEqual(wholeType(x), ahead) || !reflect.DeepEqual(d.Decls(), m.l) {
		t.Fatalf("%v, %v: it was another one ahead", x, m.l)
	}
	return n
}

// heldName asks the same of a name that may be a struct's.
func heldName(t *testing.T, d *desc.Desc, m model, name string) {
	t.Helper()
	var want api.Value
	wantDepth := 0
	for _, x := range m.l {
		if x.Name == name && x.Kind == api.DStruct {
			want, wantDepth = m.least(named(name))
		}
	}
	if v, n := Struct(d, name); n != wantDepth || !value.Same(v, want) {
		t.Fatalf("Struct of %q, by %v: %s, %d, not %s, %d", name, m.l, value.Text(v), n, value.Text(want), wantDepth)
	}
}
