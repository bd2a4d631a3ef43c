package blank

import (
	"slices"

	"concourse/api"
	"concourse/desc"
)

// maker makes blank values of a schema's types.
type maker struct {
	schema *desc.Desc
	known  map[string]*declared // the declarations that were come to
}

// declared is a declaration of a name; of one that there is not its kind is 0.
type declared struct {
	kind  int
	rows  []api.Field // those that a blank value may have items of, by rising tags
	asked [api.MaxDeep + 1]bool
	has   [api.MaxDeep + 1]bool // whether there is a blank value by each depth that was asked for
}

// find is the declaration of a name.
func (m maker) find(name string) *declared {
	x, ok := m.known[name]
	if !ok {
		x = &declared{kind: m.schema.Kind(name), rows: m.schema.Rows(name)}
		if x.kind == api.DStruct {
			x.rows = slices.DeleteFunc(x.rows, func(f api.Field) bool { return f.Type.Kind == api.TOpt })
		}
		m.known[name] = x
	}
	return x
}

// has tells whether there is a blank value of a type by a depth. It is asked ahead of making any, as much might be made in vain; and it is kept, as many ways may lead to one declaration.
func (m maker) has(t api.Type, depth int) bool {
	switch {
	case depth == 0:
		return false
	case t.Kind != api.TNamed:
		return bare(t) != 0
	}
	x := m.find(t.Name)
	if !x.asked[depth] {
		x.asked[depth], x.has[depth] = true, m.hasDeclared(x, depth)
	}
	return x.has[depth]
}

// hasDeclared tells the same of a declaration.
func (m maker) hasDeclared(x *declared, depth int) bool {
	switch x.kind {
	case api.DEnum:
		return true
	case api.DStruct:
		return !slices.ContainsFunc(x.rows, func(f api.Field) bool { return !m.has(f.Type, depth-1) })
	case api.DUnion:
		return m.first(x.rows, depth-1) >= 0
	}
	return false
}

// first is the place of the first row of which there is a blank value by a depth; below 0: there is none.
func (m maker) first(rows []api.Field, depth int) int {
	return slices.IndexFunc(rows, func(f api.Field) bool { return m.has(f.Type, depth) })
}

// blank is the blank value of a type by a depth by which there is one.
func (m maker) blank(t api.Type, depth int) api.Value {
	if t.Kind != api.TNamed {
		return api.Value{Kind: bare(t)}
	}
	x := m.find(t.Name)
	switch x.kind {
	case api.DEnum:
		return api.Value{Kind: api.VEnum, Num: int64(x.rows[0].Tag)}
	case api.DUnion:
		i := m.first(x.rows, depth-1)
		return m.items(api.VUnion, x.rows[i:i+1], depth-1)
	}
	return m.items(api.VStruct, x.rows, depth-1)
}

// items is a value of a Kind whose items are the blank values of rows by a depth.
func (m maker) items(kind int, rows []api.Field, depth int) api.Value {
	v := api.Value{Kind: kind, Tags: make([]int, len(rows)), Items: make([]api.Value, len(rows))}
	for i, f := range rows {
		v.Tags[i], v.Items[i] = f.Tag, m.blank(f.Type, depth)
	}
	return v
}
