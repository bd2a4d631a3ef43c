package show

import (
	"reflect"
	"regexp"
	"slices"
	"strconv"
	"strings"
	"testing"

	"concourse/api"
	"concourse/parse"
)

// The language's words, written out from chapter 9.
const languageWords = "struct union enum service oneway bool int uint text bytes list map"

var nameForm = regexp.MustCompile(`\A[a-zA-Z][a-zA-Z0-9_]{0,15}\z`)

// isName tells whether a text may stand where a name must, by the words of chapters 3, 9 and 10.
func isName(s string) bool {
	return nameForm.MatchString(s) && !slices.Contains(strings.Fields(languageWords), s)
}

// naiveType is a type's text, whatever is wrong with it.
func naiveType(x api.Type) string {
	var of []string
	for _, y := range x.Of {
		of = append(of, naiveType(y))
	}
	within := strings.Join(of, ",")
	switch x.Kind {
	case api.TNamed:
		return x.Name
	case api.TOpt:
		return within + "?"
	case api.TList:
		return "list<" + within + ">"
	case api.TMap:
		return "map<" + within + ">"
	}
	return map[int]string{1: "bool", 2: "int", 3: "uint", 4: "text", 5: "bytes"}[x.Kind]
}

// naiveTokens are a declaration's words, names, numbers, signs and types in the language's order, whatever is wrong with it.
func naiveTokens(d api.Decl) []string {
	l := []string{map[int]string{1: "struct", 2: "union", 3: "enum", 4: "service"}[d.Kind], d.Name, "{"}
	for _, f := range d.Fields {
		l = append(l, strconv.Itoa(f.Tag), f.Name)
		if d.Kind != api.DEnum {
			l = append(l, ":", naiveType(f.Type))
		}
		l = append(l, ";")
	}
	for _, m := range d.Methods {
		if m.OneWay {
			l = append(l, "oneway")
		}
		l = append(l, strconv.Itoa(m.Tag), m.Name, "(", m.In, ")", ":", m.Out, ";")
	}
	return append(l, "}")
}

// naiveText is declarations' text, whatever is wrong with them: a blank between each two tokens, but none ahead of ; : and around ( ).
func naiveText(l []api.Decl) string {
	var b strings.Builder
	for _, d := range l {
		last := "("
		for _, k := range naiveTokens(d) {
			if k != ";" && k != ":" && k != "(" && k != ")" && last != "(" && last != ")" {
				b.WriteString(" ")
			}
			b.WriteString(k)
			last = k
		}
		b.WriteString("\n")
	}
	return b.String()
}

// deepest is how deep what is deepest in a type stands, where the type itself stands so deep.
func deepest(x api.Type, deep int) int {
	n := deep
	for _, y := range x.Of {
		if x.Kind == api.TOpt {
			n = max(n, deepest(y, deep))
		} else {
			n = max(n, deepest(y, deep+1))
		}
	}
	return n
}

// formed tells whether a type and all within have as many types and names as their kinds say.
func formed(x api.Type) bool {
	of, ok := map[int]int{api.TBool: 0, api.TInt: 0, api.TUint: 0, api.TText: 0, api.TBytes: 0, api.TNamed: 0, api.TList: 1, api.TMap: 2, api.TOpt: 1}[x.Kind]
	if !ok || len(x.Of) != of || (x.Kind == api.TNamed) != (x.Name != "") || x.Name != "" && !isName(x.Name) {
		return false
	}
	for _, y := range x.Of {
		if !formed(y) || x.Kind == api.TOpt && y.Kind == api.TOpt {
			return false
		}
	}
	return true
}

// typeMay tells whether a type may be told, by the chapter's words.
func typeMay(x api.Type) bool {
	return formed(x) && deepest(x, 0) <= 8
}

// declMay tells whether a declaration may be told, by the chapter's words.
func declMay(d api.Decl) bool {
	names, tags := []string{d.Name}, []int{}
	may := d.Kind >= 1 && d.Kind <= 4 && len(d.Fields) <= 16 && len(d.Methods) <= 16
	if d.Kind == api.DService {
		may = may && len(d.Fields) == 0
	} else {
		may = may && len(d.Methods) == 0
	}
	for _, f := range d.Fields {
		names, tags = append(names, f.Name), append(tags, f.Tag)
		if d.Kind == api.DEnum {
			may = may && reflect.DeepEqual(noNil(f.Type), api.Type{})
		} else {
			may = may && typeMay(f.Type)
		}
	}
	for _, m := range d.Methods {
		names, tags = append(names, m.Name, m.In, m.Out), append(tags, m.Tag)
	}
	return may && !slices.ContainsFunc(names, func(s string) bool { return !isName(s) }) && !slices.ContainsFunc(tags, func(n int) bool { return n < 0 || n > 9999 })
}

// noNil is a copy of a type, with nil in the place of each list that is empty: it is the same.
func noNil(x api.Type) api.Type {
	var of []api.Type
	for _, y := range x.Of {
		of = append(of, noNil(y))
	}
	x.Of = of
	return x
}

// noPlaces is a copy of declarations, without their places, and with nil in the place of each list that is empty.
func noPlaces(l []api.Decl) []api.Decl {
	var k []api.Decl
	for _, d := range l {
		var fields []api.Field
		for _, f := range d.Fields {
			f.Type = noNil(f.Type)
			fields = append(fields, f)
		}
		k = append(k, api.Decl{Kind: d.Kind, Name: d.Name, Fields: fields, Methods: append([]api.Method(nil), d.Methods...)})
	}
	return k
}

// parsedAs tells whether a text is parsed as these declarations, but for places.
func parsedAs(s string, l []api.Decl) bool {
	k, f := parse.Parse(s)
	return f.Err == api.OK && reflect.DeepEqual(noPlaces(k), noPlaces(l))
}

// copied are declarations in memory of their own, with what lies behind their lists' ends.
func copied(l []api.Decl) []api.Decl {
	k := whole(l)
	for i := range k {
		k[i].Methods = whole(k[i].Methods)
		k[i].Fields = whole(k[i].Fields)
		for j := range k[i].Fields {
			k[i].Fields[j].Type = copiedType(k[i].Fields[j].Type)
		}
	}
	return k
}

func copiedType(x api.Type) api.Type {
	x.Of = whole(x.Of)
	for i := range x.Of {
		x.Of[i] = copiedType(x.Of[i])
	}
	return x
}

// whole is a copy of a list, as long as all that lies in it and behind its end.
func whole[T any](l []T) []T {
	if l == nil {
		return nil
	}
	return append(make([]T, 0, cap(l)), l[:cap(l)]...)
}

// held asks whether declarations' text is as the model says, and is parsed as it was; and whether they stayed as they were.
func held(t *testing.T, l []api.Decl) {
	t.Helper()
	ahead := copied(l)
	s, e := Text(l)
	if !reflect.DeepEqual(copied(l), ahead) {
		t.Fatalf("Text(%v): they were %v ahead", l, ahead)
	}
	naive := naiveText(l)
	switch {
	case len(l) > 16:
		is(t, naive, s, e, "", api.ErrLong)
	case slices.ContainsFunc(l, func(d api.Decl) bool { return !declMay(d) }):
		is(t, naive, s, e, "", api.ErrForm)
	default:
		is(t, naive, s, e, naive, api.OK)
	}
	// What may not be told is what no text tells.
	if len(naive) <= 1024 && parsedAs(naive, l) != (e == api.OK) {
		t.Fatalf("Text is %.300q, %v, but %.300q is parsed as it: %v", s, e, naive, e != api.OK)
	}
}

// heldType asks whether a type's text is as the model says, and is parsed as it was; and whether it stayed as it was.
func heldType(t *testing.T, x api.Type) {
	t.Helper()
	ahead := copiedType(x)
	s, e := Type(x)
	if !reflect.DeepEqual(copiedType(x), ahead) {
		t.Fatalf("Type(%v): it was %v ahead", x, ahead)
	}
	naive := naiveType(x)
	if typeMay(x) {
		is(t, naive, s, e, naive, api.OK)
	} else {
		is(t, naive, s, e, "", api.ErrForm)
	}
	for _, d := range withType(x) {
		held(t, []api.Decl{d})
	}
}

// withType are declarations that have a type as one of their fields.
func withType(x api.Type) []api.Decl {
	return []api.Decl{
		{Kind: api.DStruct, Name: "P", Fields: []api.Field{field(1, "a", x)}},
		{Kind: api.DUnion, Name: "Q", Fields: []api.Field{field(1, "a", tInt), field(2, "b", x)}},
	}
}

// is asks whether a text and an error are those that they must be, of what has some naive text.
func is(t *testing.T, naive, s string, e api.Errno, text string, want api.Errno) {
	t.Helper()
	if s != text || e != want {
		t.Fatalf("of %.300q: %.300q, %v, not %.300q, %v", naive, s, e, text, want)
	}
}
