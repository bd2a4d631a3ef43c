package fit

import (
	"cmp"
	"slices"

	"concourse/api"
)

// kind is a value's kind.
type kind int

// asks is what a type asks whose values need nothing but their kind.
func (k kind) asks(v api.Value) api.Errno {
	if v.Kind != int(k) {
		return api.ErrKind
	}
	return api.OK
}

// turns are the types of items that stand by turns.
type turns struct {
	asker
	types []api.Type
}

func (t turns) list(v api.Value) api.Errno {
	if v.Kind != api.VList {
		return api.ErrKind
	}
	return t.items(v.Items)
}

func (t turns) table(v api.Value) api.Errno {
	if v.Kind != api.VMap {
		return api.ErrKind
	}
	return t.items(v.Items)
}

// items is what is wrong first with items.
func (t turns) items(l []api.Value) api.Errno {
	asked := make([]question, len(t.types))
	for i, x := range t.types {
		asked[i] = t.of(x)
	}
	for i, x := range l {
		if e := asked[i%len(asked)](x); e != api.OK {
			return e
		}
	}
	return api.OK
}

// declared is the declaration of a name.
type declared struct {
	asker
	name string
}

func (d declared) record(v api.Value) api.Errno {
	if v.Kind != api.VStruct {
		return api.ErrKind
	}
	if e := d.items(v); e != api.OK {
		return e
	}
	return d.missing(v.Tags)
}

func (d declared) union(v api.Value) api.Errno {
	if v.Kind != api.VUnion {
		return api.ErrKind
	}
	return d.items(v)
}

func (d declared) enum(v api.Value) api.Errno {
	if v.Kind != api.VEnum {
		return api.ErrKind
	}
	if _, ok := d.schema.Row(d.name, int(v.Num)); !ok {
		return api.ErrTag
	}
	return api.OK
}

// items is what is wrong first with items that have tags.
func (d declared) items(v api.Value) api.Errno {
	rows := d.rowsOf(d.name)
	for i, tag := range v.Tags {
		at, ok := slices.BinarySearchFunc(rows, tag, func(f api.Field, tag int) int { return cmp.Compare(f.Tag, tag) })
		if !ok {
			return api.ErrTag
		}
		if e := d.of(rows[at].Type)(v.Items[i]); e != api.OK {
			return e
		}
	}
	return api.OK
}

// missing is what is wrong if a row that must be there is not among rising tags.
func (d declared) missing(tags []int) api.Errno {
	for _, f := range d.rowsOf(d.name) {
		if _, ok := slices.BinarySearch(tags, f.Tag); !ok && f.Type.Kind != api.TOpt {
			return api.ErrNone
		}
	}
	return api.OK
}
