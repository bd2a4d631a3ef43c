package names

import (
	"reflect"
	"testing"

	"concourse/api"
)

// naiveFind is a name's place by the chapter's words: gone through from the end, so that the first one is what stays.
func naiveFind(l []api.Decl, name string) (int, bool) {
	at, ok := 0, false
	for i := len(l) - 1; i >= 0; i-- {
		if l[i].Name == name {
			at, ok = i, true
		}
	}
	return at, ok
}

// naiveKind is a name's kind by the chapter's words.
func naiveKind(l []api.Decl, name string) int {
	if at, ok := naiveFind(l, name); ok {
		return l[at].Kind
	}
	return 0
}

// naiveField is a tag's place by the chapter's words.
func naiveField(d api.Decl, tag int) (int, bool) {
	at, ok := 0, false
	for i := len(d.Fields) - 1; i >= 0; i-- {
		if d.Fields[i].Tag == tag {
			at, ok = i, true
		}
	}
	return at, ok
}

// naiveMethod is a service's method by the chapter's words.
func naiveMethod(l []api.Decl, service, method string) (api.Method, bool) {
	m, ok := api.Method{}, false
	if at, is := naiveFind(l, service); is && l[at].Kind == 4 {
		for i := len(l[at].Methods) - 1; i >= 0; i-- {
			if l[at].Methods[i].Name == method {
				m, ok = l[at].Methods[i], true
			}
		}
	}
	return m, ok
}

// naiveTwice is the first place whose name stood ahead, by the chapter's words.
func naiveTwice(l []api.Decl) int {
	for i := range l {
		for _, d := range l[:i] {
			if d.Name == l[i].Name {
				return i
			}
		}
	}
	return -1
}

// whole is a copy of a list, as long as all that lies in it and behind its end.
func whole[T any](l []T) []T {
	if l == nil {
		return nil
	}
	return append(make([]T, 0, cap(l)), l[:cap(l)]...)
}

// wholeDecls are declarations in memory of their own, with what lies behind their lists' ends.
func wholeDecls(l []api.Decl) []api.Decl {
	k := whole(l)
	for i := range k {
		k[i].Methods = whole(k[i].Methods)
		k[i].Fields = whole(k[i].Fields)
		for j := range k[i].Fields {
			k[i].Fields[j].Type.Of = whole(k[i].Fields[j].Type.Of)
		}
	}
	return k
}

// near are a name and others that differ from it in a byte, or by what is ahead of it or behind it.
func near(s string) []string {
	l := []string{s, s + "x", s + " ", s + "\x00", s + s, "x" + s, " " + s, "\x00" + s}
	for i := range s {
		l = append(l, s[:i]+s[i+1:], s[:i]+string([]byte{s[i] ^ 1})+s[i+1:], s[:i]+string([]byte{s[i] ^ 32})+s[i+1:], s[:i]+string([]byte{s[i] ^ 128})+s[i+1:])
	}
	return append(l, "", "\x00", "P", "S", "get", "no such name")
}

// nearTags are a tag and others around it.
func nearTags(n int) []int {
	return []int{n, n + 1, n - 1, -n, n ^ 1<<8, n ^ 1<<32, n ^ -1<<63, ^n, 0}
}

// held asks whether all that may be asked of declarations is answered as the model says, and whether they stayed as they were.
func held(t *testing.T, l []api.Decl) {
	t.Helper()
	ahead := wholeDecls(l)
	x := Of(l)
	methods := append([]string{""}, near("get")...)
	for _, d := range l {
		heldFields(t, d)
		for _, m := range d.Methods {
			methods = append(methods, near(m.Name)...)
		}
	}
	asked := map[string]bool{}
	for _, d := range append(l[:len(l):len(l)], api.Decl{}) {
		for _, name := range near(d.Name) {
			if asked[name] {
				continue
			}
			asked[name] = true
			heldName(t, x, l, name)
			heldMethods(t, l, name, methods)
		}
	}
	heldTwice(t, x, l)
	if !reflect.DeepEqual(wholeDecls(l), ahead) {
		t.Fatalf("%v: they were %v ahead", l, ahead)
	}
}

// heldName asks whether a table of declarations answers of a name as the model says.
func heldName(t *testing.T, x *Table, l []api.Decl, name string) {
	t.Helper()
	at, ok := x.Find(name)
	if n, is := naiveFind(l, name); at != n || ok != is {
		t.Fatalf("of %v: Find(%q) = %d, %v, not %d, %v", l, name, at, ok, n, is)
	}
	if kind, n := x.Kind(name), naiveKind(l, name); kind != n {
		t.Fatalf("of %v: Kind(%q) = %d, not %d", l, name, kind, n)
	}
}

// heldFields asks whether a declaration's tags, and those around them, lead to the places that the model says.
func heldFields(t *testing.T, d api.Decl) {
	t.Helper()
	for _, f := range append(d.Fields[:len(d.Fields):len(d.Fields)], api.Field{}) {
		for _, tag := range nearTags(f.Tag) {
			at, ok := Field(d, tag)
			if n, is := naiveField(d, tag); at != n || ok != is {
				t.Fatalf("Field(%v, %d) = %d, %v, not %d, %v", d, tag, at, ok, n, is)
			}
		}
	}
}

// heldMethods asks whether a service's methods of some names are as the model says.
func heldMethods(t *testing.T, l []api.Decl, service string, methods []string) {
	t.Helper()
	for _, method := range methods {
		m, ok := Method(l, service, method)
		if n, is := naiveMethod(l, service, method); m != n || ok != is {
			t.Fatalf("Method(%v, %q, %q) = %v, %v, not %v, %v", l, service, method, m, ok, n, is)
		}
	}
}

// heldTwice asks whether the first place whose name stood ahead is as the model says, and whether each name leads to its own place just where there is none.
func heldTwice(t *testing.T, x *Table, l []api.Decl) {
	t.Helper()
	twice := Twice(l)
	if n := naiveTwice(l); twice != n {
		t.Fatalf("Twice(%v) = %d, not %d", l, twice, n)
	}
	elsewhere := -1
	for i := len(l) - 1; i >= 0; i-- {
		if at, ok := x.Find(l[i].Name); at != i || !ok {
			elsewhere = i
		}
	}
	if elsewhere != twice {
		t.Fatalf("of %v: %d is the first whose name leads elsewhere, but Twice is %d", l, elsewhere, twice)
	}
}
