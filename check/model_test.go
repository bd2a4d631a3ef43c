package check

import (
	"reflect"
	"slices"
	"testing"

	"concourse/api"
)

// naiveFind is the first declaration that bears a name, and whether there is one.
func naiveFind(l []api.Decl, name string) (api.Decl, bool) {
	i := slices.IndexFunc(l, func(d api.Decl) bool { return d.Name == name })
	if i < 0 {
		return api.Decl{}, false
	}
	return l[i], true
}

// ofAndName are how many types a type of a kind is of, and whether it has a name; false: there is no such kind.
func ofAndName(kind int) (int, bool, bool) {
	switch kind {
	case 1, 2, 3, 4, 5:
		return 0, false, true
	case 6:
		return 0, true, true
	case 7, 9:
		return 1, false, true
	case 8:
		return 2, false, true
	}
	return 0, false, false
}

// wrongly tells whether a type is formed wrongly, whatever is within.
func wrongly(x api.Type) bool {
	of, name, ok := ofAndName(x.Kind)
	return !ok || len(x.Of) != of || x.Name != "" && !name
}

// mayBeKeys tells whether a map's keys may be of a type: of TBool, TInt, TUint, TText, or of a DEnum.
func mayBeKeys(l []api.Decl, x api.Type) bool {
	d, ok := naiveFind(l, x.Name)
	return slices.Contains([]int{1, 2, 3, 4}, x.Kind) || x.Kind == 6 && ok && d.Kind == 3
}

// typeFaults are all faults of a type by the chapter's words, from the outside to the inside, from the left to the right.
func typeFaults(l []api.Decl, x api.Type, inner bool) []api.Errno {
	if wrongly(x) {
		return []api.Errno{8}
	}
	var es []api.Errno
	if x.Kind == 9 && inner {
		es = append(es, 8)
	}
	if x.Kind == 8 && !mayBeKeys(l, x.Of[0]) {
		es = append(es, 8)
	}
	if x.Kind == 6 {
		d, ok := naiveFind(l, x.Name)
		if !ok {
			es = append(es, 6)
		}
		if ok && d.Kind != 1 && d.Kind != 2 && d.Kind != 3 {
			es = append(es, 8)
		}
	}
	for _, y := range x.Of {
		es = append(es, typeFaults(l, y, true)...)
	}
	return es
}

// naiveType is a type's first fault.
func naiveType(l []api.Decl, x api.Type, inner bool) api.Errno {
	return append(typeFaults(l, x, inner), api.OK)[0]
}

// headFaults are the faults of a row's tag and name, of which these stood ahead.
func headFaults(kind, tag int, name string, tags []int, names []string) []api.Errno {
	var es []api.Errno
	if kind == 3 && (tag < 0 || tag > 9999) || kind != 3 && (tag < 1 || tag > 255) {
		es = append(es, 9)
	}
	if slices.Contains(tags, tag) || slices.Contains(names, name) {
		es = append(es, 7)
	}
	return es
}

// structFaults are the faults of a name that must be a struct's.
func structFaults(l []api.Decl, name string) []api.Errno {
	d, ok := naiveFind(l, name)
	switch {
	case !ok:
		return []api.Errno{6}
	case d.Kind != 1:
		return []api.Errno{8}
	}
	return nil
}

// rowFaults are all faults of a declaration's rows, row by row.
func rowFaults(l []api.Decl, d api.Decl) []api.Errno {
	var es []api.Errno
	var tags []int
	var names []string
	for _, f := range d.Fields {
		es = append(es, headFaults(d.Kind, f.Tag, f.Name, tags, names)...)
		if d.Kind != 3 {
			es = append(es, typeFaults(l, f.Type, false)...)
		}
		if d.Kind == 2 && f.Type.Kind == 9 {
			es = append(es, 8)
		}
		tags, names = append(tags, f.Tag), append(names, f.Name)
	}
	for _, m := range d.Methods {
		es = append(es, headFaults(d.Kind, m.Tag, m.Name, tags, names)...)
		es = append(es, structFaults(l, m.In)...)
		es = append(es, structFaults(l, m.Out)...)
		tags, names = append(tags, m.Tag), append(names, m.Name)
	}
	return es
}

// naiveCheck is a schema's first fault, by the chapter's words.
func naiveCheck(l []api.Decl) api.Fault {
	var fs []api.Fault
	for i, d := range l {
		var es []api.Errno
		if slices.ContainsFunc(l[:i], func(o api.Decl) bool { return o.Name == d.Name }) {
			es = append(es, 7)
		}
		if d.Kind < 1 || d.Kind > 4 {
			es = append(es, 4)
		}
		es = append(es, rowFaults(l, d)...)
		if (d.Kind == 2 || d.Kind == 3) && len(d.Fields) == 0 {
			es = append(es, 12)
		}
		for _, e := range es {
			fs = append(fs, api.Fault{Err: e, At: d.At})
		}
	}
	for i, finite := range naiveFinite(l) {
		if (l[i].Kind == 1 || l[i].Kind == 2) && !finite {
			fs = append(fs, api.Fault{Err: 10, At: l[i].At})
		}
	}
	return append(fs, api.Fault{})[0]
}

// naiveFinite tells of each declaration whether there is an end within as many steps as there are declarations, by which each that has one must have come to it.
func naiveFinite(l []api.Decl) []bool {
	within := make([]bool, len(l))
	for range len(l) + 1 {
		next := make([]bool, len(l))
		for i, d := range l {
			next[i] = endsWithin(l, d, within)
		}
		within = next
	}
	return within
}

// endsWithin tells whether a declaration is finite, if these are.
func endsWithin(l []api.Decl, d api.Decl, finite []bool) bool {
	has := func(f api.Field) bool {
		i := slices.IndexFunc(l, func(o api.Decl) bool { return o.Name == f.Type.Name })
		return f.Type.Kind != 6 || i >= 0 && finite[i]
	}
	switch d.Kind {
	case 1:
		return !slices.ContainsFunc(d.Fields, func(f api.Field) bool { return !has(f) })
	case 2:
		return slices.ContainsFunc(d.Fields, has)
	}
	return d.Kind == 3 || d.Kind == 4
}

// whole is a copy of a list, as long as all that lies in it and behind its end.
func whole[T any](l []T) []T {
	if l == nil {
		return nil
	}
	return append(make([]T, 0, cap(l)), l[:cap(l)]...)
}

func wholeType(x api.Type) api.Type {
	x.Of = whole(x.Of)
	for i := range x.Of {
		x.Of[i] = wholeType(x.Of[i])
	}
	return x
}

// wholeDecls are declarations in memory of their own, with what lies behind their lists' ends.
func wholeDecls(l []api.Decl) []api.Decl {
	k := whole(l)
	for i := range k {
		k[i].Methods = whole(k[i].Methods)
		k[i].Fields = whole(k[i].Fields)
		for j := range k[i].Fields {
			k[i].Fields[j].Type = wholeType(k[i].Fields[j].Type)
		}
	}
	return k
}

// held asks whether all that may be asked of declarations is answered as the model says, and whether they stayed as they were.
func held(t *testing.T, l []api.Decl) {
	t.Helper()
	ahead := wholeDecls(l)
	heldCheck(t, l)
	for _, d := range l {
		for _, f := range d.Fields {
			heldType(t, l, f.Type)
		}
	}
	if now := wholeDecls(l); !reflect.DeepEqual(now, ahead) {
		t.Fatalf("%v: they were %v ahead", now, ahead)
	}
}

// heldCheck asks whether a schema's fault, and what is finite of it, are as the model says; and what is wrong without its last declaration.
func heldCheck(t *testing.T, l []api.Decl) {
	t.Helper()
	f, want := Check(l), naiveCheck(l)
	if f != want {
		t.Fatalf("Check(%v) = %v, not %v", l, f, want)
	}
	if b, want := Finite(l), naiveFinite(l); !slices.Equal(b, want) {
		t.Fatalf("Finite(%v) = %v, not %v", l, b, want)
	}
	if f.Err == api.OK && len(l) > 0 {
		heldShorter(t, l)
	}
}

// heldShorter asks whether a schema that may be has no new fault without its last declaration, but at the first one that has its name.
func heldShorter(t *testing.T, l []api.Decl) {
	t.Helper()
	last := len(l) - 1
	f, want := Check(l[:last]), api.Fault{}
	if i := slices.IndexFunc(l[:last], func(d api.Decl) bool { return tells(d, l[last].Name) }); i >= 0 {
		// Which error it is hangs on what the name stands as: keys of a map may not be of it.
		want = api.Fault{Err: naiveCheck(l[:last]).Err, At: l[i].At}
		if want.Err != api.ErrName && want.Err != api.ErrType {
			t.Fatalf("%v is wrong without the last of %v", want, l)
		}
	}
	if f != want {
		t.Fatalf("Check(%v) = %v, not %v, without the last of %v", l[:last], f, want, l[last])
	}
}

// tells tells whether a name stands in a declaration's types or methods.
func tells(d api.Decl, name string) bool {
	return d.Kind != 3 && slices.ContainsFunc(d.Fields, func(f api.Field) bool { return typeTells(f.Type, name) }) ||
		slices.ContainsFunc(d.Methods, func(m api.Method) bool { return m.In == name || m.Out == name })
}

func typeTells(x api.Type, name string) bool {
	return x.Kind == 6 && x.Name == name || slices.ContainsFunc(x.Of, func(y api.Type) bool { return typeTells(y, name) })
}

// heldType asks whether why a type may not stand is as the model says, in a field and in a list.
func heldType(t *testing.T, l []api.Decl, x api.Type) {
	t.Helper()
	for _, inner := range []bool{false, true} {
		if e, want := Type(l, x, inner), naiveType(l, x, inner); e != want {
			t.Fatalf("Type(%v, %v, %v) = %v, not %v", l, x, inner, e, want)
		}
	}
}
