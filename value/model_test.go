package value

import (
	"fmt"
	"math/big"
	"reflect"
	"strings"
	"testing"
	"unicode/utf8"

	"concourse/api"
)

// flat are a value and all that is within it, level by level, and how many levels these are.
func flat(v api.Value) ([]api.Value, int) {
	var all []api.Value
	levels := 0
	for level := []api.Value{v}; len(level) > 0; levels++ {
		var next []api.Value
		for _, x := range level {
			next = append(next, x.Items...)
		}
		all = append(all, level...)
		level = next
	}
	return all, levels
}

// naiveFields are the fields that values of each kind have, by their first letters (g: the tags).
func naiveFields(kind int) string {
	return map[int]string{1: "n", 2: "n", 3: "n", 4: "t", 5: "t", 6: "n", 7: "i", 8: "i", 9: "gi", 10: "gi"}[kind]
}

// naiveOne tells whether a value is one, whatever its items are.
func naiveOne(v api.Value) bool {
	has := naiveFields(v.Kind)
	beside := !strings.Contains(has, "n") && v.Num != 0 || !strings.Contains(has, "t") && v.Text != "" ||
		!strings.Contains(has, "g") && len(v.Tags) != 0 || !strings.Contains(has, "i") && len(v.Items) != 0
	if has == "" || beside {
		return false
	}
	tags := len(v.Tags) == len(v.Items)
	for i, tag := range v.Tags {
		tags = tags && 1 <= tag && tag <= 255
		for _, ahead := range v.Tags[:i] {
			tags = tags && ahead < tag
		}
	}
	switch v.Kind {
	case 1:
		return v.Num == 0 || v.Num == 1
	case 4:
		return utf8.ValidString(v.Text)
	case 6:
		return big.NewInt(v.Num).IsUint64() && v.Num < 10000
	case 8:
		return naiveMap(v.Items)
	case 9:
		return tags
	case 10:
		return tags && len(v.Items) == 1
	}
	return true
}

// naiveMap tells whether items are those of a map: each key is held against all ahead.
func naiveMap(l []api.Value) bool {
	for i := 0; i < len(l); i += 2 {
		if !may(l[i].Kind) {
			return false
		}
		for j := 0; j < i; j += 2 {
			if l[i].Kind != l[j].Kind || naiveCmp(l[j], l[i]) != -1 {
				return false
			}
		}
	}
	return len(l)%2 == 0
}

// naiveWell tells whether a value, and all that is within it, is one.
func naiveWell(v api.Value) bool {
	all, _ := flat(v)
	for _, x := range all {
		if !naiveOne(x) {
			return false
		}
	}
	return true
}

// naiveNum is a value's number, with its sign if there is one.
func naiveNum(v api.Value) *big.Int {
	n := big.NewInt(v.Num)
	if v.Kind == 3 && v.Num < 0 {
		n.Add(n, new(big.Int).Lsh(big.NewInt(1), 64))
	}
	return n
}

// naiveCmp is how two keys stand.
func naiveCmp(a, b api.Value) int {
	switch {
	case a.Kind < b.Kind:
		return -1
	case a.Kind > b.Kind:
		return 1
	case naiveFields(a.Kind) == "n":
		return naiveNum(a).Cmp(naiveNum(b))
	case a.Kind != 4:
		return 0
	}
	for i := 0; ; i++ {
		switch {
		case i == len(a.Text) && i == len(b.Text):
			return 0
		case i == len(a.Text) || i < len(b.Text) && int(a.Text[i]) < int(b.Text[i]):
			return -1
		case i == len(b.Text) || int(a.Text[i]) > int(b.Text[i]):
			return 1
		}
	}
}

// naiveSize is a value's size.
func naiveSize(v api.Value) int {
	all, _ := flat(v)
	n := 0
	for _, x := range all {
		n += 8 + len(x.Text)
	}
	return n
}

// itself are the bytes of texts that stand for themselves.
const itself = " !#$%&'()*+,-./0123456789:;<=>?@ABCDEFGHIJKLMNOPQRSTUVWXYZ[]^_`abcdefghijklmnopqrstuvwxyz{|}~"

// naiveText is a value's text.
func naiveText(v api.Value) string {
	var l []string
	for i, x := range v.Items {
		s := naiveText(x)
		switch {
		case v.Kind == 8 && i%2 == 1:
			l[len(l)-1] += ":" + s
			continue
		case v.Kind > 8 && i < len(v.Tags):
			s = fmt.Sprintf("%d=%s", v.Tags[i], s)
		case v.Kind > 8:
			s = "0=" + s
		}
		l = append(l, s)
	}
	switch v.Kind {
	case 1:
		return fmt.Sprint(v.Num != 0)
	case 2, 3, 6:
		return naiveNum(v).String()
	case 4, 5:
		s := ""
		for _, c := range []byte(v.Text) {
			if strings.IndexByte(itself, c) >= 0 {
				s += string(rune(c))
			} else {
				s += fmt.Sprintf(`\%02x`, c)
			}
		}
		return `"` + s + `"`
	case 7, 8, 9, 10:
		signs := []string{"[]", "{}", "()", "<>"}[v.Kind-7]
		return signs[:1] + strings.Join(l, ",") + signs[1:]
	}
	return "?"
}

// bare is a value in memory of its own, whose lists that are empty are nil.
func bare(v api.Value) api.Value {
	v.Tags = append([]int(nil), v.Tags...)
	var items []api.Value
	for _, x := range v.Items {
		items = append(items, bare(x))
	}
	v.Items = items
	return v
}

// hollow is a value in memory of its own, whose lists that are empty are of length 0.
func hollow(v api.Value) api.Value {
	v.Tags = append([]int{}, v.Tags...)
	items := []api.Value{}
	for _, x := range v.Items {
		items = append(items, hollow(x))
	}
	v.Items = items
	return v
}

// naiveSame tells whether two values are the same, but for lists that are nil or of length 0.
func naiveSame(a, b api.Value) bool {
	return reflect.DeepEqual(bare(a), bare(b))
}

// whole is a value in memory of its own, with what lies behind its lists' ends.
func whole(v api.Value) api.Value {
	if v.Tags != nil {
		v.Tags = append([]int{}, v.Tags[:cap(v.Tags)]...)
	}
	if v.Items != nil {
		items := []api.Value{}
		for _, x := range v.Items[:cap(v.Items)] {
			items = append(items, whole(x))
		}
		v.Items = items
	}
	return v
}

// held asks whether all that may be asked of a value is answered as the model says; it is the same as itself, however its empty lists are, and it stays as it was.
func held(t *testing.T, v api.Value) {
	t.Helper()
	ahead := whole(v)
	if ok, want := Well(v), naiveWell(v); ok != want {
		t.Fatalf("Well(%v) = %v, not %v", v, ok, want)
	}
	_, deep := flat(v)
	if n := Deep(v); n != deep {
		t.Fatalf("Deep(%v) = %d, not %d", v, n, deep)
	}
	if n, want := Size(v), naiveSize(v); n != want {
		t.Fatalf("Size(%v) = %d, not %d", v, n, want)
	}
	if s, want := Text(v), naiveText(v); s != want {
		t.Fatalf("Text(%v) = %s, not %s", v, s, want)
	}
	if !Same(v, v) || !Same(v, bare(v)) || !Same(hollow(v), v) || !Same(bare(v), hollow(v)) {
		t.Fatalf("%v is not the same as itself", v)
	}
	if n := Cmp(v, hollow(v)); n != 0 {
		t.Fatalf("Cmp(%v) and itself = %d", v, n)
	}
	for _, x := range []api.Value{bare(v), hollow(v)} {
		if Well(x) != Well(v) || Deep(x) != deep || Size(x) != Size(v) || Text(x) != Text(v) {
			t.Fatalf("%v: it is answered another way, if its lists are nil or of length 0", v)
		}
	}
	if !reflect.DeepEqual(whole(v), ahead) {
		t.Fatalf("%v: it was %v ahead", v, ahead)
	}
}

// heldPair asks whether two values are held against each other as the model says, both ways round; and as 15.4 says.
func heldPair(t *testing.T, a, b api.Value) {
	t.Helper()
	same := naiveSame(a, b)
	if Same(a, b) != same || Same(b, a) != same {
		t.Fatalf("%v and %v: the same: %v, %v, not %v", a, b, Same(a, b), Same(b, a), same)
	}
	n := naiveCmp(a, b)
	if Cmp(a, b) != n || Cmp(b, a) != -n {
		t.Fatalf("%v and %v: Cmp: %d, %d, not %d", a, b, Cmp(a, b), Cmp(b, a), n)
	}
	if may(a.Kind) && a.Kind == b.Kind && !same && Well(a) && Well(b) && (Cmp(a, b) == 0 || Text(a) == Text(b)) {
		t.Fatalf("%v and %v are alike", a, b)
	}
}

// may tells whether a map's keys may be of a kind.
func may(kind int) bool {
	switch kind {
	case api.VBool, api.VInt, api.VUint, api.VEnum, api.VText:
		return true
	}
	return false
}
