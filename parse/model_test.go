package parse

import (
	"reflect"
	"strconv"
	"strings"
	"testing"

	"concourse/api"
	"concourse/lex"
)

// The language's words, written out from the chapter.
const languageWords = "struct union enum service oneway bool int uint text bytes list map"

func inLanguage(s string) bool {
	for _, w := range strings.Fields(languageWords) {
		if s == w {
			return true
		}
	}
	return false
}

// due is what must stand next: NAME, NUM, a sign or a word for itself; or what the grammar puts in its place: decls, fields, values, methods (n are behind), type (n deep), opt.
type due struct {
	what string
	n    int
}

// dues are several of them; those that bear a number have one behind a dot.
func dues(s string) []due {
	var l []due
	for _, f := range strings.Fields(s) {
		what, n, _ := strings.Cut(f, ".")
		k, _ := strconv.Atoi(n)
		l = append(l, due{what, k})
	}
	return l
}

// sort is what a token is for the grammar.
func sort(k api.Token) string {
	switch {
	case k.Kind == api.TkNum:
		return "NUM"
	case k.Kind == api.TkEnd:
		return "END"
	case k.Kind == api.TkWord && !inLanguage(k.Text):
		return "NAME"
	}
	return k.Text
}

// instead is what stands in the place of something that is due, where a token of some sort is next.
func instead(d due, sort string) ([]due, api.Errno) {
	next := "." + strconv.Itoa(d.n+1)
	switch d.what {
	case "decls":
		return declInstead(d, sort, next)
	case "fields", "values", "methods":
		return rowInstead(d, sort, next)
	case "type":
		return typeInstead(d, sort, next)
	case "opt":
		if sort == "?" {
			return dues("?"), api.OK
		}
		return nil, api.OK
	}
	panic(d.what)
}

func declInstead(d due, sort, next string) ([]due, api.Errno) {
	switch {
	case sort == "END":
		return dues("END"), api.OK
	case d.n == 16:
		return nil, api.ErrLong
	}
	switch sort {
	case "struct", "union":
		return dues(sort + " NAME { fields.0 decls" + next), api.OK
	case "enum":
		return dues("enum NAME { values.0 decls" + next), api.OK
	case "service":
		return dues("service NAME { methods.0 decls" + next), api.OK
	}
	return nil, api.ErrToken
}

func rowInstead(d due, sort, next string) ([]due, api.Errno) {
	switch {
	case sort == "}":
		return dues("}"), api.OK
	case d.n == 16 && sort != "END":
		return nil, api.ErrLong
	case d.what == "fields" && sort == "NUM":
		return dues("NUM NAME : type.0 ; fields" + next), api.OK
	case d.what == "values" && sort == "NUM":
		return dues("NUM NAME ; values" + next), api.OK
	case d.what == "methods" && sort == "NUM":
		return dues("NUM NAME ( NAME ) : NAME ; methods" + next), api.OK
	case d.what == "methods" && sort == "oneway":
		return dues("oneway NUM NAME ( NAME ) : NAME ; methods" + next), api.OK
	}
	return nil, api.ErrToken
}

func typeInstead(d due, sort, next string) ([]due, api.Errno) {
	if d.n > 8 {
		return nil, api.ErrDeep
	}
	switch sort {
	case "bool", "int", "uint", "text", "bytes", "NAME":
		return dues(sort + " opt"), api.OK
	case "list":
		return dues("list < type" + next + " > opt"), api.OK
	case "map":
		return dues("map < type" + next + " , type" + next + " > opt"), api.OK
	}
	return nil, api.ErrToken
}

// isDue tells whether something is due as a token itself.
func isDue(what string) bool {
	switch what {
	case "decls", "fields", "values", "methods", "type", "opt":
		return false
	}
	return true
}

// model tells a text's fault, by the chapter's words.
func model(s string) api.Fault {
	tokens, f := lex.Tokens(s)
	if f.Err != api.OK {
		return f
	}
	stack := dues("decls.0")
	for _, k := range tokens {
		for !isDue(stack[0].what) {
			l, e := instead(stack[0], sort(k))
			if e != api.OK {
				return api.Fault{Err: e, At: k.At}
			}
			stack = append(l, stack[1:]...)
		}
		if stack[0].what != sort(k) {
			return api.Fault{Err: api.ErrToken, At: k.At}
		}
		stack = stack[1:]
	}
	return api.Fault{}
}

// typeText is a type's tokens, a blank between each two. What its kind has no use for must be zero.
func typeText(t *testing.T, x api.Type) string {
	t.Helper()
	if x.Kind == api.TNamed && len(x.Of) == 0 {
		return x.Name
	}
	if x.Name != "" {
		t.Fatalf("%v has a name", x)
	}
	var of []string
	for _, y := range x.Of {
		of = append(of, typeText(t, y))
	}
	words := map[int]string{api.TBool: "bool", api.TInt: "int", api.TUint: "uint", api.TText: "text", api.TBytes: "bytes"}
	switch {
	case len(of) == 0 && words[x.Kind] != "":
		return words[x.Kind]
	case len(of) == 1 && x.Kind == api.TOpt && x.Of[0].Kind != api.TOpt:
		return of[0] + " ?"
	case len(of) == 1 && x.Kind == api.TList:
		return "list < " + of[0] + " >"
	case len(of) == 2 && x.Kind == api.TMap:
		return "map < " + of[0] + " , " + of[1] + " >"
	}
	t.Fatalf("%v is no type of the language", x)
	return ""
}

// declText is a declaration's tokens, a blank between each two. What its kind has no use for must be zero.
func declText(t *testing.T, d api.Decl) string {
	t.Helper()
	kinds := map[int]string{api.DStruct: "struct", api.DUnion: "union", api.DEnum: "enum", api.DService: "service"}
	if kinds[d.Kind] == "" || d.Kind == api.DService && len(d.Fields) > 0 || d.Kind != api.DService && len(d.Methods) > 0 {
		t.Fatalf("%v is no declaration of the language", d)
	}
	b := kinds[d.Kind] + " " + d.Name + " {"
	for _, f := range d.Fields {
		b += " " + strconv.Itoa(f.Tag) + " " + f.Name
		if d.Kind != api.DEnum {
			b += " : " + typeText(t, f.Type)
		} else if !reflect.DeepEqual(f.Type, api.Type{}) {
			t.Fatalf("%v has a type", f)
		}
		b += " ;"
	}
	for _, m := range d.Methods {
		if m.OneWay {
			b += " oneway"
		}
		b += " " + strconv.Itoa(m.Tag) + " " + m.Name + " ( " + m.In + " ) : " + m.Out + " ;"
	}
	return b + " }"
}

// declsText is declarations' tokens, a blank between each two.
func declsText(t *testing.T, l []api.Decl) string {
	t.Helper()
	var b []string
	for _, d := range l {
		b = append(b, declText(t, d))
	}
	return strings.Join(b, " ")
}

// begins are the places at which a text's declarations begin: their words stand nowhere else.
func begins(tokens []api.Token) []int {
	var l []int
	for _, k := range tokens {
		switch k.Text {
		case "struct", "union", "enum", "service":
			l = append(l, k.At)
		}
	}
	return l
}

// held asks whether a text's fault is as the model says, or its declarations tell all of its tokens, and are at their places.
func held(t *testing.T, s string) {
	t.Helper()
	want := model(s)
	l, f := Parse(s)
	if f != want {
		t.Fatalf("Parse(%.300q): %v, not %v", s, f, want)
	}
	if f.Err != api.OK {
		if len(l) != 0 {
			t.Fatalf("Parse(%.300q): %v, and %v", s, f, l)
		}
		return
	}
	tokens, _ := lex.Tokens(s)
	if b := declsText(t, l); b != lex.Join(tokens[:len(tokens)-1]) {
		t.Fatalf("Parse(%.300q) is %.300q", s, b)
	}
	at := begins(tokens)
	if len(at) != len(l) {
		t.Fatalf("Parse(%.300q): %d declarations, not %d", s, len(l), len(at))
	}
	for i, d := range l {
		if d.At != at[i] {
			t.Fatalf("Parse(%.300q): %d is at %d, not %d", s, i, d.At, at[i])
		}
	}
}
