package desc

import (
	"reflect"
	"slices"
	"testing"

	"concourse/api"
)

// naiveDecl is a name's declaration, gone through from the end, so that the first one is what stays; false: there is none.
func naiveDecl(l []api.Decl, name string) (api.Decl, bool) {
	found, ok := api.Decl{}, false
	for i := len(l) - 1; i >= 0; i-- {
		if l[i].Name == name {
			found, ok = l[i], true
		}
	}
	return found, ok
}

// naiveRows are a declaration's rows: again and again the one of the least tag above the last one.
func naiveRows(l []api.Decl, name string) []api.Field {
	d, _ := naiveDecl(l, name)
	var rows []api.Field
	last := -1
	for range d.Fields {
		next := -1
		for i, f := range d.Fields {
			if f.Tag > last && (next < 0 || f.Tag < d.Fields[next].Tag) {
				next = i
			}
		}
		rows = append(rows, d.Fields[next])
		last = d.Fields[next].Tag
	}
	return rows
}

// naiveRow is the row of a tag.
func naiveRow(l []api.Decl, name string, tag int) (api.Field, bool) {
	d, _ := naiveDecl(l, name)
	for _, f := range d.Fields {
		if f.Tag == tag {
			return f, true
		}
	}
	return api.Field{}, false
}

// naiveMethod is a service's method.
func naiveMethod(l []api.Decl, service, method string) (api.Method, bool) {
	d, _ := naiveDecl(l, service)
	for _, m := range d.Methods {
		if d.Kind == 4 && m.Name == method {
			return m, true
		}
	}
	return api.Method{}, false
}

// naiveWire is how a value of a type is written.
func naiveWire(l []api.Decl, x api.Type) int {
	d, _ := naiveDecl(l, x.Name)
	switch {
	case x.Kind == 1 || x.Kind == 2 || x.Kind == 3 || x.Kind == 6 && d.Kind == 3:
		return 0
	case x.Kind == 9 && len(x.Of) == 1:
		return naiveWire(l, x.Of[0])
	}
	return 1
}

// listed is a copy of a list, item by item; of none it is nil.
func listed[T any](l []T, one func(T) T) []T {
	var k []T
	for _, x := range l {
		k = append(k, one(x))
	}
	return k
}

func bareType(x api.Type) api.Type {
	x.Of = listed(x.Of, bareType)
	return x
}

func bareField(f api.Field) api.Field {
	f.Type = bareType(f.Type)
	return f
}

func bareDecl(d api.Decl) api.Decl {
	d.Fields = listed(d.Fields, bareField)
	d.Methods = listed(d.Methods, func(m api.Method) api.Method { return m })
	return d
}

// bare are declarations in memory of their own, whose lists that are empty are nil.
func bare(l []api.Decl) []api.Decl { return listed(l, bareDecl) }

// placeless are declarations whose places are all 0.
func placeless(l []api.Decl) []api.Decl {
	return listed(l, func(d api.Decl) api.Decl {
		d.At = 0
		return bareDecl(d)
	})
}

// naiveSame tells whether declarations are the same, but for their places.
func naiveSame(a, b []api.Decl) bool {
	return reflect.DeepEqual(placeless(a), placeless(b))
}

// whole is a copy of a list, as long as all that lies in it and behind its end.
func whole[T any](l []T, one func(T) T) []T {
	if l == nil {
		return nil
	}
	k := make([]T, cap(l))
	for i, x := range l[:cap(l)] {
		k[i] = one(x)
	}
	return k
}

func wholeType(x api.Type) api.Type {
	x.Of = whole(x.Of, wholeType)
	return x
}

func wholeField(f api.Field) api.Field {
	f.Type = wholeType(f.Type)
	return f
}

// wholeDecls are declarations in memory of their own, with what lies behind their lists' ends.
func wholeDecls(l []api.Decl) []api.Decl {
	return whole(l, func(d api.Decl) api.Decl {
		d.Fields = whole(d.Fields, wholeField)
		d.Methods = whole(d.Methods, func(m api.Method) api.Method { return m })
		return d
	})
}

// near are a name and others that differ from it in a byte, or by what is ahead of it or behind it.
func near(s string) []string {
	l := []string{s, s + "x", s + "\x00", " " + s, s + s}
	if s != "" {
		last := len(s) - 1
		l = append(l, s[1:], s[:last], s[:last]+string([]byte{s[last] ^ 32}))
	}
	return l
}

// nearTags are a tag and others around it.
func nearTags(n int) []int {
	return []int{n, n + 1, n - 1, -n, ^n, n ^ 1<<8, n ^ 1<<32, n ^ -1<<63}
}

// asked are names, tags and types that declarations may be asked for, of theirs and of none.
type asked struct {
	names, methods []string
	tags           []int
	types          []api.Type
}

func askedOf(l []api.Decl) asked {
	a := asked{[]string{"", "P", "no such name"}, []string{"", "get"}, []int{0, 1, 255, 9999}, []api.Type{{}}}
	for kind := -1; kind <= 10; kind++ {
		a.types = append(a.types, api.Type{Kind: kind}, api.Type{Kind: kind, Of: []api.Type{{Kind: api.TInt}}})
	}
	for _, d := range l {
		a.names = append(a.names, near(d.Name)...)
		a.types = append(a.types, api.Type{Kind: api.TNamed, Name: d.Name})
		for _, f := range d.Fields {
			a.tags = append(a.tags, nearTags(f.Tag)...)
			a.types = append(a.types, f.Type)
			a.types = append(a.types, f.Type.Of...)
			a.names = append(a.names, f.Name)
			a.methods = append(a.methods, f.Name)
		}
		for _, m := range d.Methods {
			a.methods = append(a.methods, near(m.Name)...)
		}
	}
	for _, l := range [][]string{a.names, a.methods} {
		slices.Sort(l)
	}
	slices.Sort(a.tags)
	a.names, a.methods, a.tags = slices.Compact(a.names), slices.Compact(a.methods), slices.Compact(a.tags)
	return a
}

// held asks whether all that may be asked of a schema of declarations is answered as the model says.
func held(t *testing.T, d *Desc, l []api.Decl) {
	t.Helper()
	if k := d.Decls(); !reflect.DeepEqual(bare(k), bare(l)) {
		t.Fatalf("of %v: Decls() = %v", l, k)
	}
	a := askedOf(l)
	for _, name := range a.names {
		heldName(t, d, l, name)
		for _, tag := range a.tags {
			heldRow(t, d, l, name, tag)
		}
		for _, method := range a.methods {
			m, ok := d.Method(name, method)
			if n, is := naiveMethod(l, name, method); m != n || ok != is {
				t.Fatalf("of %v: Method(%q, %q) = %v, %v, not %v, %v", l, name, method, m, ok, n, is)
			}
		}
	}
	for _, x := range a.types {
		if n, want := d.Wire(x), naiveWire(l, x); n != want {
			t.Fatalf("of %v: Wire(%v) = %d, not %d", l, x, n, want)
		}
	}
	if !d.Same(d) || d.Same(nil) != (len(l) == 0) || (*Desc)(nil).Same(d) != (len(l) == 0) {
		t.Fatalf("of %v: Same", l)
	}
}

// heldName asks whether a name's kind and rows are as the model says; and whether the rows are all fields, each once, rising.
func heldName(t *testing.T, d *Desc, l []api.Decl, name string) {
	t.Helper()
	x, _ := naiveDecl(l, name)
	if kind := d.Kind(name); kind != x.Kind {
		t.Fatalf("of %v: Kind(%q) = %d, not %d", l, name, kind, x.Kind)
	}
	rows, want := d.Rows(name), naiveRows(l, name)
	if !reflect.DeepEqual(listed(rows, bareField), listed(want, bareField)) {
		t.Fatalf("of %v: Rows(%q) = %v, not %v", l, name, rows, want)
	}
	if len(rows) != len(x.Fields) {
		t.Fatalf("of %v: %d Rows(%q), not %d", l, len(rows), name, len(x.Fields))
	}
	for i, f := range rows {
		if i > 0 && f.Tag <= rows[i-1].Tag {
			t.Fatalf("of %v: Rows(%q) = %v", l, name, rows)
		}
		heldRow(t, d, l, name, f.Tag)
	}
}

// heldRow asks whether the row of a tag is as the model says.
func heldRow(t *testing.T, d *Desc, l []api.Decl, name string, tag int) {
	t.Helper()
	f, ok := d.Row(name, tag)
	if g, is := naiveRow(l, name, tag); ok != is || !reflect.DeepEqual(bareField(f), bareField(g)) {
		t.Fatalf("of %v: Row(%q, %d) = %v, %v, not %v, %v", l, name, tag, f, ok, g, is)
	}
}
