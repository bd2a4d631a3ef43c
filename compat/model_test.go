package compat

import (
	"cmp"
	"reflect"
	"slices"
	"testing"

	"concourse/api"
	"concourse/desc"
)

// complaint is one thing that is wrong: at old's declaration of that place, there at the step, and the row's tag or the method's place.
type complaint struct {
	decl, step, at int
	err            api.Errno
}

// The steps that one declaration is gone through by, in the chapter's order.
const (
	stepName = iota
	stepKind
	stepRow
	stepMethod
	stepNew
)

// complaints are all things that are wrong with now in old's place, in no order.
func complaints(old, now []api.Decl) []complaint {
	var l []complaint
	for i, d := range old {
		at := slices.IndexFunc(now, func(n api.Decl) bool { return n.Name == d.Name })
		if at < 0 {
			l = append(l, complaint{i, stepName, 0, api.ErrName})
			continue
		}
		n := now[at]
		if d.Kind != n.Kind {
			l = append(l, complaint{i, stepKind, 0, api.ErrKind})
		}
		l = append(l, newComplaints(i, d, n)...)
		l = append(l, rowComplaints(i, d, n)...)
		l = append(l, methodComplaints(i, d, n)...)
	}
	return l
}

// tagged is the row of a tag, if there is one.
func tagged(d api.Decl, tag int) []api.Field {
	var l []api.Field
	for _, f := range d.Fields {
		if f.Tag == tag {
			l = append(l, f)
		}
	}
	return l
}

func rowComplaints(place int, d, n api.Decl) []complaint {
	var l []complaint
	for _, f := range d.Fields {
		there := tagged(n, f.Tag)
		mayGo := d.Kind == api.DStruct && f.Type.Kind == api.TOpt
		if len(there) == 0 && !mayGo {
			l = append(l, complaint{place, stepRow, f.Tag, api.ErrTag})
		}
		if len(there) == 1 && !naiveType(f.Type, there[0].Type) {
			l = append(l, complaint{place, stepRow, f.Tag, api.ErrType})
		}
	}
	return l
}

func methodComplaints(place int, d, n api.Decl) []complaint {
	var l []complaint
	for i, m := range d.Methods {
		err := api.ErrTag
		for _, o := range n.Methods {
			if o.Name == m.Name && (o.Tag != m.Tag || o.In != m.In || o.Out != m.Out || o.OneWay != m.OneWay) {
				err = api.ErrType
			} else if o.Name == m.Name {
				err = api.OK
			}
		}
		if err != api.OK {
			l = append(l, complaint{place, stepMethod, i, err})
		}
	}
	return l
}

func newComplaints(place int, d, n api.Decl) []complaint {
	var l []complaint
	for _, f := range n.Fields {
		if d.Kind == api.DStruct && len(tagged(d, f.Tag)) == 0 && f.Type.Kind != api.TOpt {
			l = append(l, complaint{place, stepNew, f.Tag, api.ErrTag})
		}
	}
	return l
}

// naiveCheck is the first of all complaints.
func naiveCheck(old, now []api.Decl) (api.Errno, string) {
	l := complaints(old, now)
	if len(l) == 0 {
		return api.OK, ""
	}
	c := slices.MinFunc(l, func(a, b complaint) int {
		return cmp.Or(cmp.Compare(a.decl, b.decl), cmp.Compare(a.step, b.step), cmp.Compare(a.at, b.at))
	})
	return c.err, old[c.decl].Name
}

// naiveGone are the tags that went, in order.
func naiveGone(old, now []api.Decl, name string) []int {
	var o, n api.Decl
	for _, d := range old {
		if d.Name == name {
			o = d
		}
	}
	for _, d := range now {
		if d.Name == name {
			n = d
		}
	}
	var tags []int
	for _, f := range o.Fields {
		if len(tagged(n, f.Tag)) == 0 {
			tags = append(tags, f.Tag)
		}
	}
	slices.Sort(tags)
	return tags
}

// naiveType tells whether two types are the same, but for lists that are nil or of length 0.
func naiveType(a, b api.Type) bool {
	return reflect.DeepEqual(bareType(a), bareType(b))
}

// listed is a copy of a list, item by item; of none it is nil.
func listed[T any](l []T, one func(T) T) []T {
	var k []T
	for _, x := range l {
		k = append(k, one(x))
	}
	return k
}

func bareType(x api.Type) api.Type {
	x.Of = listed(x.Of, bareType)
	return x
}

func bareField(f api.Field) api.Field {
	f.Type = bareType(f.Type)
	return f
}

func bareDecl(d api.Decl) api.Decl {
	d.Fields = listed(d.Fields, bareField)
	d.Methods = listed(d.Methods, func(m api.Method) api.Method { return m })
	return d
}

// bare are declarations in memory of their own, whose lists that are empty are nil.
func bare(l []api.Decl) []api.Decl { return listed(l, bareDecl) }

// held asks whether all that may be asked of two schemas is answered as the model says, both ways round, and of each by itself.
func held(t *testing.T, a, b *desc.Desc) {
	t.Helper()
	heldOnce(t, a, b)
	heldOnce(t, b, a)
	heldOnce(t, a, a)
	heldOnce(t, b, b)
	for _, d := range []*desc.Desc{a, b} {
		if e, name := Check(d, d); e != api.OK || name != "" {
			t.Fatalf("Check of %v and itself = %v, %q", d.Decls(), e, name)
		}
	}
}

// heldOnce asks whether two schemas are held against each other as the model says, one way round.
func heldOnce(t *testing.T, old, now *desc.Desc) {
	t.Helper()
	o, n := old.Decls(), now.Decls()
	e, name := Check(old, now)
	if want, at := naiveCheck(o, n); e != want || name != at {
		t.Fatalf("Check of %v and %v = %v, %q, not %v, %q", o, n, e, name, want, at)
	}
	names := []string{"", "no such name"}
	for _, d := range append(o, n...) {
		names = append(names, d.Name)
	}
	slices.Sort(names)
	for _, name := range slices.Compact(names) {
		if tags, want := Gone(old, now, name), naiveGone(o, n, name); !slices.Equal(tags, want) {
			t.Fatalf("Gone of %v and %v, %q = %v, not %v", o, n, name, tags, want)
		}
	}
}
