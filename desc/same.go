package desc

import (
	"slices"

	"concourse/api"
)

// Same tells whether two schemas have the same declarations.
func (d *Desc) Same(o *Desc) bool {
	return slices.EqualFunc(d.kept(), o.kept(), sameDecl)
}

// sameDecl tells whether two declarations are the same, but for their places.
func sameDecl(a, b api.Decl) bool {
	return a.Kind == b.Kind && a.Name == b.Name && slices.EqualFunc(a.Fields, b.Fields, sameField) && slices.Equal(a.Methods, b.Methods)
}

// sameField tells whether two fields, or values, are the same.
func sameField(a, b api.Field) bool {
	return a.Tag == b.Tag && a.Name == b.Name && sameType(a.Type, b.Type)
}

// sameType tells whether two types are the same.
func sameType(a, b api.Type) bool {
	return a.Kind == b.Kind && a.Name == b.Name && slices.EqualFunc(a.Of, b.Of, sameType)
}
