package show

import (
	"concourse/api"
	"concourse/parse"
	"concourse/utf"
)

// The greatest tag that may be told: a number of the language has no more digits.
const maxTag = 9999

// all tells whether each item of a list may be told.
func all[T any](l []T, may func(T) bool) bool {
	for _, x := range l {
		if !may(x) {
			return false
		}
	}
	return true
}

// mayDecl tells whether a declaration may be told.
func mayDecl(d api.Decl) bool {
	return mayName(d.Name) && len(d.Fields) <= api.MaxFields && len(d.Methods) <= api.MaxFields && mayRows(d)
}

// mayRows tells whether a declaration's kind is one, and has rows as these, all of which may be told.
func mayRows(d api.Decl) bool {
	switch d.Kind {
	case api.DStruct, api.DUnion:
		return len(d.Methods) == 0 && all(d.Fields, mayField)
	case api.DEnum:
		return len(d.Methods) == 0 && all(d.Fields, mayValue)
	case api.DService:
		return len(d.Fields) == 0 && all(d.Methods, mayMethod)
	}
	return false
}

// mayField tells whether a field of a struct or a union may be told.
func mayField(f api.Field) bool {
	return mayHead(f.Tag, f.Name) && mayType(f.Type, 0)
}

// mayValue tells whether a value of an enum may be told.
func mayValue(f api.Field) bool {
	return mayHead(f.Tag, f.Name) && f.Type.Kind == 0 && f.Type.Name == "" && len(f.Type.Of) == 0
}

// mayMethod tells whether a method may be told.
func mayMethod(m api.Method) bool {
	return mayHead(m.Tag, m.Name) && mayName(m.In) && mayName(m.Out)
}

// mayHead tells whether what each row begins with may be told.
func mayHead(tag int, name string) bool {
	return tag >= 0 && tag <= maxTag && mayName(name)
}

// mayName tells whether a text may stand where a name must.
func mayName(s string) bool {
	return utf.Name(s) && !parse.Word(s)
}

// mayType tells whether a type that stands so deep may be told.
func mayType(t api.Type, deep int) bool {
	if deep > api.MaxDeep || len(t.Of) != parts(t.Kind) {
		return false
	}
	if t.Kind == api.TNamed {
		return mayName(t.Name)
	}
	return t.Name == "" && mayKind(t, deep)
}

// mayKind tells whether a type of a right number of types, and without a name, is of a kind that may be told, and its types, too.
func mayKind(t api.Type, deep int) bool {
	switch t.Kind {
	case api.TOpt:
		// Asked ahead of what is within, which is no deeper: else an optional type that is its own would have no end.
		return t.Of[0].Kind != api.TOpt && mayType(t.Of[0], deep)
	case api.TList:
		return mayType(t.Of[0], deep+1)
	case api.TMap:
		return mayType(t.Of[0], deep+1) && mayType(t.Of[1], deep+1)
	}
	return plainWord(t.Kind) != ""
}

// parts is how many types a type of a kind is of.
func parts(kind int) int {
	switch kind {
	case api.TList, api.TOpt:
		return 1
	case api.TMap:
		return 2
	}
	return 0
}
