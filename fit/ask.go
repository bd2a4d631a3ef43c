package fit

import (
	"concourse/api"
	"concourse/desc"
)

// More types than these are within one another only where the document promises nothing any more, as in a type that has itself within it: to look on would have no end.
const mostWithin = 1 << 17

// question is what a type asks of a value that is well: why it is not of that type.
type question func(v api.Value) api.Errno

// asker finds what the types of a schema ask.
type asker struct {
	schema *desc.Desc
	rows   map[string][]api.Field // of the structs and unions that were come to: the schema would make a copy each time
}

// of is what a type asks. What is within a list, a map or a declaration is looked at where a value comes to it alone: it may be wrong, or the same type again.
func (a asker) of(t api.Type) question {
	t = withoutOpt(t)
	switch t.Kind {
	case api.TBool:
		return kind(api.VBool).asks
	case api.TInt:
		return kind(api.VInt).asks
	case api.TUint:
		return kind(api.VUint).asks
	case api.TText:
		return kind(api.VText).asks
	case api.TBytes:
		return kind(api.VBytes).asks
	case api.TNamed:
		return a.ofName(t.Name)
	case api.TList:
		if len(t.Of) == 1 {
			return turns{a, t.Of}.list
		}
	case api.TMap:
		if len(t.Of) == 2 {
			return turns{a, t.Of}.table
		}
	}
	return wrong
}

// withoutOpt is the type that is left when the TOpts around it are taken away, as far as they are formed rightly.
func withoutOpt(t api.Type) api.Type {
	for range mostWithin {
		if t.Kind != api.TOpt || len(t.Of) != 1 {
			return t
		}
		t = t.Of[0]
	}
	return api.Type{}
}

// ofName is what the declaration of a name asks.
func (a asker) ofName(name string) question {
	switch a.schema.Kind(name) {
	case api.DStruct:
		return declared{a, name}.record
	case api.DUnion:
		return declared{a, name}.union
	case api.DEnum:
		return declared{a, name}.enum
	}
	return wrong
}

// rowsOf are a declaration's rows.
func (a asker) rowsOf(name string) []api.Field {
	l, ok := a.rows[name]
	if !ok {
		l = a.schema.Rows(name)
		a.rows[name] = l
	}
	return l
}

// wrong is what a type asks that is none of the schema's.
func wrong(api.Value) api.Errno {
	return api.ErrType
}
