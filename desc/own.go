package desc

import (
	"slices"
	"strings"

	"concourse/api"
)

// each is a list of what is made of each item.
func each[T any](l []T, made func(T) T) []T {
	if len(l) == 0 {
		return nil
	}
	k := make([]T, len(l))
	for i, x := range l {
		k[i] = made(x)
	}
	return k
}

// ownDecl is a declaration in memory of its own.
func ownDecl(d api.Decl) api.Decl {
	d.Name = strings.Clone(d.Name)
	d.Fields = each(d.Fields, ownField)
	d.Methods = each(d.Methods, ownMethod)
	return d
}

// ownField is a field, or a value, in memory of its own.
func ownField(f api.Field) api.Field {
	f.Name = strings.Clone(f.Name)
	f.Type = ownType(f.Type)
	return f
}

// ownMethod is a method in memory of its own.
func ownMethod(m api.Method) api.Method {
	m.Name, m.In, m.Out = strings.Clone(m.Name), strings.Clone(m.In), strings.Clone(m.Out)
	return m
}

// ownType is a type in memory of its own.
func ownType(t api.Type) api.Type {
	t.Name = strings.Clone(t.Name)
	t.Of = each(t.Of, ownType)
	return t
}

// endless tells whether a type of a declaration's rows has no end, as far as the document's bound lets types be.
func endless(d api.Decl) bool {
	return slices.ContainsFunc(d.Fields, func(f api.Field) bool { return deeper(f.Type, mostWithin) })
}

// deeper tells whether more types than these are within a type, one in the other.
func deeper(t api.Type, most int) bool {
	return most < 0 || slices.ContainsFunc(t.Of, func(x api.Type) bool { return deeper(x, most-1) })
}
