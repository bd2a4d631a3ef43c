package check

import (
	"concourse/api"
	"concourse/names"
)

// More types than these are within one another only where the document promises nothing any more, as in a type that has itself within it: to look on would have no end.
const mostWithin = 1 << 17

// Type tells why a type may not stand.
func Type(l []api.Decl, t api.Type, inner bool) api.Errno {
	return wrongType(names.Of(l), t, inner)
}

// wrongType is what is wrong first with a type that stands in a field, or, inner, in a list. A map's keys have nothing within them, so there is one way from the outside to the inside.
func wrongType(table *names.Table, t api.Type, inner bool) api.Errno {
	for range mostWithin {
		if !formed(t) || inner && t.Kind == api.TOpt {
			return api.ErrType
		}
		switch t.Kind {
		case api.TNamed:
			return wrongName(table, t.Name, api.DStruct, api.DUnion, api.DEnum)
		case api.TOpt, api.TList:
			t = t.Of[0]
		case api.TMap:
			if !keys(table, t.Of[0]) {
				return api.ErrType
			}
			t = t.Of[1]
		default:
			return api.OK
		}
		inner = true
	}
	return api.ErrType
}

// formed tells whether a type is of a kind, and has as many types, and a name, as its kind may; what is within counts for nothing.
func formed(t api.Type) bool {
	switch t.Kind {
	case api.TBool, api.TInt, api.TUint, api.TText, api.TBytes:
		return len(t.Of) == 0 && t.Name == ""
	case api.TNamed:
		return len(t.Of) == 0
	case api.TList, api.TOpt:
		return len(t.Of) == 1 && t.Name == ""
	case api.TMap:
		return len(t.Of) == 2 && t.Name == ""
	}
	return false
}

// keys tells whether a map's keys may be of a type.
func keys(table *names.Table, t api.Type) bool {
	switch t.Kind {
	case api.TBool, api.TInt, api.TUint, api.TText:
		return formed(t)
	case api.TNamed:
		return formed(t) && table.Kind(t.Name) == api.DEnum
	}
	return false
}
