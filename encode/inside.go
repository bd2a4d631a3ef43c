package encode

import (
	"strings"

	"concourse/api"
	"concourse/key"
	"concourse/span"
	"concourse/varint"
)

// How a value is written in a field: as a number's bytes, or as a span.
const (
	wireNum  = 0
	wireSpan = 1
)

// wire is how a value that is of a type is written in a field. All types that it may be of are written as its own kind tells, so none is asked.
func wire(v api.Value) int {
	switch v.Kind {
	case api.VBool, api.VInt, api.VUint, api.VEnum:
		return wireNum
	}
	return wireSpan
}

// inside is the inside of a value that is of a type; of one that is written as a number, its content.
func inside(v api.Value) string {
	var b strings.Builder
	content := func(item api.Value) {
		s := inside(item)
		if wire(item) == wireSpan {
			s = span.Put(s)
		}
		b.WriteString(s)
	}
	switch v.Kind {
	case api.VBool, api.VUint, api.VEnum:
		b.WriteString(varint.Put(uint64(v.Num)))
	case api.VInt:
		b.WriteString(varint.PutInt(v.Num))
	case api.VText, api.VBytes:
		b.WriteString(v.Text)
	case api.VList, api.VMap:
		for _, x := range v.Items {
			content(x)
		}
	case api.VStruct, api.VUnion:
		for i, x := range v.Items {
			// No error: a value's tags are tags.
			k, _ := key.Put(v.Tags[i], wire(x))
			b.WriteString(k)
			content(x)
		}
	}
	return b.String()
}
