package decode

import (
	"slices"

	"concourse/api"
	"concourse/utf"
	"concourse/value"
	"concourse/varint"
)

// value takes the value of a type.
func (k *taker) value(t api.Type) api.Value {
	k.begin()
	for t.Kind == api.TOpt {
		t = t.Of[0]
	}
	switch t.Kind {
	case api.TBool:
		return k.boolean()
	case api.TInt:
		return api.Value{Kind: api.VInt, Num: varint.Back(k.number())}
	case api.TUint:
		return api.Value{Kind: api.VUint, Num: int64(k.number())}
	case api.TText:
		return k.rightText()
	case api.TBytes:
		return api.Value{Kind: api.VBytes, Text: k.text()}
	case api.TList:
		return k.inner(k.span()).list(t.Of[0])
	case api.TMap:
		return k.inner(k.span()).table(t.Of[0], t.Of[1])
	}
	return k.named(t.Name)
}

// named takes the value of the declaration of a name.
func (k *taker) named(name string) api.Value {
	switch k.schema.Kind(name) {
	case api.DEnum:
		return k.enum(name)
	case api.DUnion:
		return k.inner(k.span()).union(name)
	}
	return k.inner(k.span()).record(name)
}

func (k *taker) boolean() api.Value {
	n := k.number()
	if n > 1 {
		throw(api.ErrForm)
	}
	return api.Value{Kind: api.VBool, Num: int64(n)}
}

func (k *taker) enum(name string) api.Value {
	n := k.number()
	if _, ok := k.row(name, n); !ok {
		throw(api.ErrTag)
	}
	return api.Value{Kind: api.VEnum, Num: int64(n)}
}

func (k *taker) rightText() api.Value {
	s := k.text()
	if !utf.Valid(s) {
		throw(api.ErrText)
	}
	return api.Value{Kind: api.VText, Text: s}
}

// list takes all that is left as a list's items.
func (k *taker) list(item api.Type) api.Value {
	v := api.Value{Kind: api.VList}
	for k.left != "" {
		v.Items = append(v.Items, k.value(item))
	}
	return v
}

// table takes all that is left as a map's keys and values.
func (k *taker) table(keys, values api.Type) api.Value {
	v := api.Value{Kind: api.VMap}
	for k.left != "" {
		x := k.value(keys)
		if n := len(v.Items); n > 0 && value.Cmp(v.Items[n-2], x) >= 0 {
			throw(api.ErrTag)
		}
		v.Items = append(v.Items, x)
		v.Items = append(v.Items, k.value(values))
	}
	return v
}

// record takes all that is left as a struct's fields.
func (k *taker) record(name string) api.Value {
	v := api.Value{Kind: api.VStruct}
	last := 0
	for k.left != "" {
		tag, wire := k.key()
		if tag <= last {
			throw(api.ErrTag)
		}
		last = tag
		f, ok := k.row(name, uint64(tag))
		if !ok {
			k.skip(wire)
			continue
		}
		v.Items = append(v.Items, k.content(f, wire))
		v.Tags = append(v.Tags, tag)
	}
	for _, f := range k.rowsOf(name) {
		if _, ok := slices.BinarySearch(v.Tags, f.Tag); !ok && f.Type.Kind != api.TOpt {
			throw(api.ErrNone)
		}
	}
	return v
}

// union takes all that is left as a union's one field.
func (k *taker) union(name string) api.Value {
	if k.left == "" {
		throw(api.ErrNone)
	}
	tag, wire := k.key()
	f, ok := k.row(name, uint64(tag))
	if !ok {
		throw(api.ErrTag)
	}
	v := api.Value{Kind: api.VUnion, Tags: []int{tag}, Items: []api.Value{k.content(f, wire)}}
	if k.left != "" {
		throw(api.ErrForm)
	}
	return v
}

// content takes the content of a row's field.
func (k *taker) content(f api.Field, wire int) api.Value {
	if wire != k.schema.Wire(f.Type) {
		throw(api.ErrKind)
	}
	return k.value(f.Type)
}
