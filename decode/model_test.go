package decode

import (
	"math"
	"math/big"
	"slices"
	"strings"
	"testing"
	"unicode/utf8"

	"concourse/api"
	"concourse/desc"
	"concourse/encode"
	"concourse/fit"
	"concourse/value"
)

// number is a number's bytes: seven bits a byte, the lowest first.
func number(n uint64) string {
	if n < 128 {
		return string([]byte{byte(n)})
	}
	return string([]byte{byte(n%128 + 128)}) + number(n/128)
}

// turned is the bytes of a number with a sign: of 2n, or, below 0, of -2n - 1.
func turned(n int64) string {
	if n < 0 {
		return number(2*uint64(-1-n) + 1)
	}
	return number(2 * uint64(n))
}

// spanned is a text with its length ahead.
func spanned(s string) string { return number(uint64(len(s))) + s }

// plain is a type without TOpts around it, and the declaration that it names, if it does.
func plain(l []api.Decl, x api.Type) (api.Type, api.Decl) {
	for x.Kind == api.TOpt {
		x = x.Of[0]
	}
	for _, d := range l {
		if x.Kind == api.TNamed && d.Name == x.Name {
			return x, d
		}
	}
	return x, api.Decl{}
}

// isNumber tells whether values of a type are written as a number's bytes.
func isNumber(l []api.Decl, x api.Type) bool {
	x, d := plain(l, x)
	return slices.Contains([]int{api.TBool, api.TInt, api.TUint}, x.Kind) || d.Kind == api.DEnum
}

// rowOf is the row of a tag.
func rowOf(d api.Decl, tag uint64) (api.Field, bool) {
	for _, f := range d.Fields {
		if big.NewInt(int64(f.Tag)).Cmp(new(big.Int).SetUint64(tag)) == 0 {
			return f, true
		}
	}
	return api.Field{}, false
}

// history is what befalls while bytes are taken, whatever may be made: what had been made, behind each thing that was, and what was wrong at last, or the struct.
type history struct {
	made []int
	err  api.Errno
	v    api.Value
}

// answer is what is answered by a history, if so much may be made.
func (h *history) answer(most int) (api.Value, int, api.Errno) {
	for _, cost := range h.made {
		if cost > most {
			return api.Value{}, 0, api.ErrFull
		}
	}
	if h.err != api.OK {
		return api.Value{}, 0, h.err
	}
	return h.v, h.made[len(h.made)-1], api.OK
}

// pays tells that something was made.
func (h *history) pays(cost int) {
	if len(h.made) > 0 {
		cost += h.made[len(h.made)-1]
	}
	h.made = append(h.made, cost)
}

// model takes bytes as the chapter's words tell it, by the declarations alone.
type model struct {
	*history
	l []api.Decl
}

// modelNumber is the number with which bytes begin, and how many they are.
func modelNumber(b string) (uint64, int, api.Errno) {
	for i := range 10 {
		if i == len(b) {
			return 0, 0, api.ErrShort
		}
		if b[i] > 127 {
			continue
		}
		sum := new(big.Int)
		for j := i; j >= 0; j-- {
			sum.Add(sum.Lsh(sum, 7), big.NewInt(int64(b[j]%128)))
		}
		if i > 0 && b[i] == 0 || !sum.IsUint64() {
			return 0, 0, api.ErrForm
		}
		return sum.Uint64(), i + 1, api.OK
	}
	return 0, 0, api.ErrForm
}

// modelSpan is where the text begins and ends of the span with which bytes begin.
func modelSpan(b string) (int, int, api.Errno) {
	n, k, e := modelNumber(b)
	if e != api.OK {
		return 0, 0, e
	}
	end := new(big.Int).SetUint64(n)
	end.Add(end, big.NewInt(int64(k)))
	if end.Cmp(big.NewInt(int64(len(b)))) > 0 {
		return 0, 0, api.ErrShort
	}
	return k, int(end.Int64()), api.OK
}

// modelKey is the tag and the wire of the key with which bytes begin, and how many bytes it has.
func modelKey(b string) (uint64, int, int, api.Errno) {
	n, k, e := modelNumber(b)
	if e == api.OK && (n < 2 || n > 511) {
		e = api.ErrTag
	}
	return n / 2, int(n % 2), k, e
}

// content takes the value of a type whose content stands ahead in bytes, within so many others: the value, and how many bytes are its content.
func (m model) content(x api.Type, b string, within int) (api.Value, int, api.Errno) {
	if within > 7 {
		return api.Value{}, 0, api.ErrDeep
	}
	m.pays(8)
	if isNumber(m.l, x) {
		n, k, e := modelNumber(b)
		if e != api.OK {
			return api.Value{}, 0, e
		}
		v, e := m.numeral(x, n)
		return v, k, e
	}
	from, to, e := modelSpan(b)
	if e != api.OK {
		return api.Value{}, 0, e
	}
	v, e := m.inside(x, b[from:to], within+1)
	return v, to, e
}

// numeral is the value of a type that is a number.
func (m model) numeral(x api.Type, n uint64) (api.Value, api.Errno) {
	x, d := plain(m.l, x)
	switch x.Kind {
	case api.TBool:
		if n != 0 && n != 1 {
			return api.Value{}, api.ErrForm
		}
		return vBool(int64(n)), api.OK
	case api.TUint:
		return vUint(n), api.OK
	case api.TInt:
		if n%2 == 1 {
			return vInt(-1 - int64(n/2)), api.OK
		}
		return vInt(int64(n / 2)), api.OK
	}
	if _, ok := rowOf(d, n); !ok {
		return api.Value{}, api.ErrTag
	}
	return vEnum(int64(n)), api.OK
}

// inside takes the value of a type whose inside are these bytes; what is within it stands within so many others.
func (m model) inside(x api.Type, b string, within int) (api.Value, api.Errno) {
	x, d := plain(m.l, x)
	switch {
	case x.Kind == api.TText || x.Kind == api.TBytes:
		m.pays(len(b))
		if x.Kind == api.TBytes {
			return vBytes(b), api.OK
		}
		if !utf8.ValidString(b) {
			return api.Value{}, api.ErrText
		}
		return vText(b), api.OK
	case x.Kind == api.TList:
		return m.items(vList(), x.Of, b, within)
	case x.Kind == api.TMap:
		return m.items(vMap(), x.Of, b, within)
	case d.Kind == api.DUnion:
		return m.choice(d, b, within)
	}
	return m.fields(d, b, within)
}

// items takes all of the bytes as items of types by turns.
func (m model) items(v api.Value, of []api.Type, b string, within int) (api.Value, api.Errno) {
	for b != "" || len(v.Items)%len(of) != 0 {
		x, k, e := m.content(of[len(v.Items)%len(of)], b, within)
		if e == api.OK && v.Kind == api.VMap && len(v.Items)%2 == 0 {
			for i := 0; i < len(v.Items); i += 2 {
				if !less(v.Items[i], x) {
					e = api.ErrTag
				}
			}
		}
		if e != api.OK {
			return api.Value{}, e
		}
		v.Items, b = append(v.Items, x), b[k:]
	}
	return v, api.OK
}

// less tells whether one key stands ahead of another one.
func less(a, b api.Value) bool {
	x, y := big.NewInt(a.Num), big.NewInt(b.Num)
	if a.Kind == api.VUint {
		x, y = new(big.Int).SetUint64(uint64(a.Num)), new(big.Int).SetUint64(uint64(b.Num))
	}
	if a.Kind == api.VText {
		return slices.Compare([]byte(a.Text), []byte(b.Text)) < 0
	}
	return x.Cmp(y) < 0
}

// fields takes all of the bytes as a struct's fields.
func (m model) fields(d api.Decl, b string, within int) (api.Value, api.Errno) {
	v := vStruct(nil)
	seen := map[uint64]bool{}
	for b != "" {
		tag, wire, k, e := modelKey(b)
		if e != api.OK {
			return api.Value{}, e
		}
		for n := tag; n < 256; n++ {
			if seen[n] {
				return api.Value{}, api.ErrTag
			}
		}
		seen[tag], b = true, b[k:]
		f, ok := rowOf(d, tag)
		if !ok {
			end := 0
			if wire == 0 {
				_, end, e = modelNumber(b)
			} else {
				_, end, e = modelSpan(b)
			}
			if e != api.OK {
				return api.Value{}, e
			}
			b = b[end:]
			continue
		}
		if isNumber(m.l, f.Type) != (wire == 0) {
			return api.Value{}, api.ErrKind
		}
		x, k, e := m.content(f.Type, b, within)
		if e != api.OK {
			return api.Value{}, e
		}
		v.Tags, v.Items, b = append(v.Tags, int(tag)), append(v.Items, x), b[k:]
	}
	for _, f := range d.Fields {
		if f.Type.Kind != api.TOpt && !seen[uint64(f.Tag)] {
			return api.Value{}, api.ErrNone
		}
	}
	return v, api.OK
}

// choice takes all of the bytes as a union's field.
func (m model) choice(d api.Decl, b string, within int) (api.Value, api.Errno) {
	if b == "" {
		return api.Value{}, api.ErrNone
	}
	tag, wire, k, e := modelKey(b)
	if e != api.OK {
		return api.Value{}, e
	}
	f, ok := rowOf(d, tag)
	if !ok {
		return api.Value{}, api.ErrTag
	}
	if isNumber(m.l, f.Type) != (wire == 0) {
		return api.Value{}, api.ErrKind
	}
	x, n, e := m.content(f.Type, b[k:], within)
	if e == api.OK && k+n < len(b) {
		e = api.ErrForm
	}
	if e != api.OK {
		return api.Value{}, e
	}
	return vUnion(int(tag), x), api.OK
}

// modelOf is what befalls while bytes are taken as a struct of a name; nothing is made, if there is none of that name.
func modelOf(l []api.Decl, name string, b string) *history {
	h := &history{err: api.ErrType}
	for _, d := range l {
		if d.Name == name && d.Kind == api.DStruct {
			h.pays(8)
			h.v, h.err = model{h, l}.fields(d, b, 1)
		}
	}
	return h
}

// mosts are what may be made, just about each thing that is, if these are not too many, and far from all.
func (h *history) mosts() []int {
	l := []int{math.MaxInt, math.MinInt, -1, 0, 1}
	for i, cost := range h.made {
		if i < 3 || i > len(h.made)-4 || i%(1+len(h.made)/4) == 0 {
			l = append(l, cost-1, cost)
		}
	}
	return append(l, 1<<31, 1<<32)
}

// same asks whether an answer is another one.
func same(v api.Value, n int, e api.Errno, v2 api.Value, n2 int, e2 api.Errno) bool {
	return e == e2 && n == n2 && value.Same(v, v2)
}

// held asks whether what is asked of bytes is answered as the model says, whatever may be made; and, if they are a struct, what follows of it. It tells what befell.
func held(t *testing.T, d *desc.Desc, l []api.Decl, name string, b string) *history {
	t.Helper()
	h := modelOf(l, name, b)
	for _, most := range h.mosts() {
		want, cost, err := h.answer(most)
		if v, n, e := Decode(d, name, b, most); !same(v, n, e, want, cost, err) {
			t.Fatalf("Decode of %q and %v, %d, by %v: %v, %d, %v, not %v, %d, %v", name, []byte(b), most, l, value.Text(v), n, e, value.Text(want), cost, err)
		}
	}
	if h.err == api.OK {
		isBack(t, d, name, b, h.v)
	}
	return h
}

// isBack asks whether a struct that was decoded of bytes is one, costs its size, and is the same when it is encoded and decoded again.
func isBack(t *testing.T, d *desc.Desc, name string, b string, v api.Value) {
	t.Helper()
	if e := fit.Struct(d, name, v); e != api.OK {
		t.Fatalf("%v is no %q: %v", value.Text(v), name, e)
	}
	size := value.Size(v)
	s, e := encode.Inside(d, named(name), v)
	if e != api.OK || len(s) > len(b) {
		t.Fatalf("%v, of %v: encoded %v, %v", value.Text(v), []byte(b), []byte(s), e)
	}
	for _, most := range []int{size, math.MaxInt} {
		if v2, n, e := Decode(d, name, s, most); !same(v2, n, e, v, size, api.OK) {
			t.Fatalf("%v, of %v, of size %d: %v, %d, %v", value.Text(v), []byte(s), size, value.Text(v2), n, e)
		}
	}
	if v2, n, e := Decode(d, name, s, size-1); !same(v2, n, e, api.Value{}, 0, api.ErrFull) {
		t.Fatalf("%v of size %d: %v, %d, %v", []byte(s), size, value.Text(v2), n, e)
	}
	if short, e := encode.Encode(d, name, v); e == api.OK && short != s || e != api.OK && len(s) <= 1024 {
		t.Fatalf("%v: %v, %v", value.Text(v), []byte(short), e)
	}
}

// without is a value of a type of one schema, without what stands at rows that another one's declarations have not.
func without(old, now []api.Decl, x api.Type, v api.Value) api.Value {
	x, d := plain(old, x)
	_, d2 := plain(now, x)
	w := v
	w.Tags, w.Items = nil, nil
	for i, item := range v.Items {
		var y api.Type
		if len(v.Tags) > 0 {
			f, _ := rowOf(d, uint64(v.Tags[i]))
			if _, ok := rowOf(d2, uint64(v.Tags[i])); !ok {
				continue
			}
			y = f.Type
			w.Tags = append(w.Tags, v.Tags[i])
		} else {
			y = x.Of[i%len(x.Of)]
		}
		w.Items = append(w.Items, without(old, now, y, item))
	}
	w.Text = strings.Clone(v.Text)
	return w
}
