package key

import (
	"math"
	"math/rand"
	"slices"
	"strings"
	"testing"
	"unsafe"

	"concourse/api"
)

// Wires, from the chapter's words.
const (
	asNumber = 0
	asSpan   = 1
)

// nine are the bytes of a number of ten bytes ahead of its last one.
var nine = strings.Repeat("\x80", 9)

// row is a key and its bytes, written out from the chapter's words.
type row struct {
	tag, wire int
	b         string
}

func rows() []row {
	return []row{
		{1, asNumber, "\x02"},
		{1, asSpan, "\x03"},
		{2, asNumber, "\x04"},
		{7, asSpan, "\x0f"},
		{62, asSpan, "\x7d"},
		// The last keys of one byte, and the first ones of two.
		{63, asNumber, "\x7e"},
		{63, asSpan, "\x7f"},
		{64, asNumber, "\x80\x01"},
		{64, asSpan, "\x81\x01"},
		{150, asNumber, "\xac\x02"},
		{254, asSpan, "\xfd\x03"},
		{255, asNumber, "\xfe\x03"},
		{255, asSpan, "\xff\x03"},
	}
}

// tails are what may stand behind.
func tails() []string {
	return []string{"", "\x00", "\x01", "\x02", "\x80", "x", "\xff\xff", "\x03\x01a", nine + "\x02"}
}

// wrong is bytes, and what is wrong with them.
type wrong struct {
	b string
	e api.Errno
}

// wrongNumbers begin with no number's bytes.
func wrongNumbers() []wrong {
	return []wrong{
		{"", api.ErrShort},
		{"\x80", api.ErrShort},
		{"\xff\xff", api.ErrShort},
		{nine, api.ErrShort},
		{"\x80\x00", api.ErrForm},
		{"\x82\x00", api.ErrForm},
		{"\x83\x00\x01a", api.ErrForm},
		{"\xff\x80\x00", api.ErrForm},
		{nine + "\x00", api.ErrForm},
		{nine + "\x02", api.ErrForm},
		{nine + "\x80\x01", api.ErrForm},
	}
}

// wrongTags are numbers that are no key's.
func wrongTags() []string {
	return []string{
		"\x00", "\x01",
		"\x80\x04", "\x81\x04", // 512, 513: of the tag 256
		"\x82\x04", "\xff\x07", "\xff\xff\x03",
		// Numbers whose lower bits alone would be a key's: above 16, 32, and of all 64.
		"\x82\x80\x04", "\x82\x80\x80\x80\x10", "\x82\x80\x80\x80\x20",
		"\x82" + nine[1:] + "\x01", nine + "\x01",
		strings.Repeat("\xff", 8) + "\x7f", strings.Repeat("\xff", 9) + "\x01",
	}
}

// 4.1.
func TestPut(t *testing.T) {
	for _, x := range rows() {
		if b, e := Put(x.tag, x.wire); b != x.b || e != api.OK {
			t.Errorf("Put(%d, %d) = %q, %v, not %q", x.tag, x.wire, b, e, x.b)
		}
	}
}

// noTags are no tags, noWires are no wires: beside the bounds, and such as would be one if they lost bits.
func noTags() []int {
	return []int{0, -1, -2, -255, 256, 257, 511, 512, 1 << 16, 1<<16 + 1, 1<<32 + 1, 1<<62 + 1, math.MinInt, math.MinInt + 1, math.MaxInt}
}

func noWires() []int {
	return []int{-1, -2, 2, 3, 4, 256, 257, 1 << 16, 1 << 32, 1<<32 + 1, math.MinInt, math.MinInt + 1, math.MaxInt}
}

// 4.1, R2: what the tag is counts ahead of the wire.
func TestPutWrong(t *testing.T) {
	for _, tag := range noTags() {
		for _, w := range append(noWires(), asNumber, asSpan) {
			if b, e := Put(tag, w); b != "" || e != api.ErrTag {
				t.Errorf("Put(%d, %d) = %q, %v", tag, w, b, e)
			}
		}
	}
	for _, w := range noWires() {
		for _, tag := range []int{1, 2, 64, 254, 255} {
			if b, e := Put(tag, w); b != "" || e != api.ErrKind {
				t.Errorf("Put(%d, %d) = %q, %v", tag, w, b, e)
			}
		}
	}
}

// 4.1.
func TestTake(t *testing.T) {
	for _, x := range rows() {
		for _, tail := range tails() {
			if tag, w, k, e := Take(x.b + tail); tag != x.tag || w != x.wire || k != len(x.b) || e != api.OK {
				t.Errorf("Take(%q) = %d, %d, %d, %v", x.b+tail, tag, w, k, e)
			}
		}
	}
}

// 4.1, R2.
func TestTakeWrong(t *testing.T) {
	l := wrongNumbers()
	for _, b := range wrongTags() {
		for _, tail := range tails() {
			l = append(l, wrong{b + tail, api.ErrTag})
		}
	}
	for _, x := range l {
		if tag, w, k, e := Take(x.b); tag != 0 || w != 0 || k != 0 || e != x.e {
			t.Errorf("Take(%q) = %d, %d, %d, %v, not %v", x.b, tag, w, k, e, x.e)
		}
	}
}

// 4.1: each tag and each wire, and those beside them.
func TestAllKeys(t *testing.T) {
	seen := map[string]bool{}
	for tag := -300; tag <= 600; tag++ {
		for w := -3; w <= 4; w++ {
			b, e := Put(tag, w)
			switch {
			case tag < 1 || tag > 255:
				if b != "" || e != api.ErrTag {
					t.Errorf("Put(%d, %d) = %q, %v", tag, w, b, e)
				}
			case w != asNumber && w != asSpan:
				if b != "" || e != api.ErrKind {
					t.Errorf("Put(%d, %d) = %q, %v", tag, w, b, e)
				}
			default:
				if b != put(uint64(2*tag+w)) || e != api.OK || seen[b] {
					t.Errorf("Put(%d, %d) = %q, %v", tag, w, b, e)
				}
				seen[b] = true
			}
		}
	}
	for n := range uint64(1 << 15) {
		tag, w, k, e := Take(put(n) + "\xff")
		good := tag == int(n/2) && w == int(n%2) && k == len(put(n)) && e == api.OK
		if n < 2 || n >= 512 {
			good = tag == 0 && w == 0 && k == 0 && e == api.ErrTag
		}
		if !good {
			t.Errorf("Take of %d = %d, %d, %d, %v", n, tag, w, k, e)
		}
	}
}

// content is a content, and its wire.
type content struct {
	b    string
	wire int
}

func contents() []content {
	long := strings.Repeat("q", 300)
	return []content{
		{"\x00", asNumber},
		{"\x01", asNumber},
		{"\x7f", asNumber},
		{"\x80\x01", asNumber},
		{"\xac\x02", asNumber},
		{strings.Repeat("\xff", 8) + "\x7f", asNumber},
		{nine + "\x01", asNumber},
		{strings.Repeat("\xff", 9) + "\x01", asNumber},
		{"\x00", asSpan},
		{"\x01a", asSpan},
		{"\x01\x00", asSpan},
		{"\x02\xff\x80", asSpan},
		{"\x7f" + long[:127], asSpan},
		{"\x80\x01" + long[:128], asSpan},
		{"\xac\x02" + long, asSpan},
		{"\x80\x80\x04" + strings.Repeat("\x80", 1<<16), asSpan},
	}
}

// cut are spans that are cut off behind their lengths; of those of the last rows no int holds what they are long.
func cut() []string {
	return []string{
		"\x01", "\x02a", "\x05abcd", "\x80\x01", "\x80\x01" + strings.Repeat("a", 127), "\xff\xff\x03abc",
		"\x80\x80\x80\x80\x08", "\x80\x80\x80\x80\x10a", strings.Repeat("\xff", 8) + "\x7f", "\xf6" + strings.Repeat("\xff", 7) + "\x7f" + "abc",
		nine + "\x01", "\x83" + nine[1:] + "\x01abc", strings.Repeat("\xff", 9) + "\x01", "\xf5" + strings.Repeat("\xff", 8) + "\x01abc",
	}
}

// 4.2.
func TestSkip(t *testing.T) {
	for _, x := range contents() {
		for _, tail := range tails() {
			if k, e := Skip(x.b+tail, x.wire); k != len(x.b) || e != api.OK {
				t.Errorf("Skip(%.60q, %d) = %d, %v, not %d", x.b+tail, x.wire, k, e, len(x.b))
			}
		}
	}
}

// 4.2, R2: what the wire is counts ahead of all.
func TestSkipWrong(t *testing.T) {
	skip := func(b string, w int, want api.Errno) {
		t.Helper()
		if k, e := Skip(b, w); k != 0 || e != want {
			t.Errorf("Skip(%.60q, %d) = %d, %v, not %v", b, w, k, e, want)
		}
	}
	for _, x := range wrongNumbers() {
		skip(x.b, asNumber, x.e)
		skip(x.b, asSpan, x.e)
	}
	for _, b := range cut() {
		skip(b, asSpan, api.ErrShort)
	}
	for _, w := range noWires() {
		for _, x := range wrongNumbers() {
			skip(x.b, w, api.ErrKind)
		}
		for _, b := range append(cut(), tails()...) {
			skip(b, w, api.ErrKind)
		}
		for _, x := range contents() {
			skip(x.b, w, api.ErrKind)
		}
	}
}

// 4.2: wherever a content is cut off.
func TestSkipCut(t *testing.T) {
	for _, x := range contents() {
		for k := range min(len(x.b), 400) {
			if n, e := Skip(x.b[:k], x.wire); n != 0 || e != api.ErrShort {
				t.Errorf("Skip(%.60q, %d) = %d, %v", x.b[:k], x.wire, n, e)
			}
		}
	}
}

// fields is the bytes of fields, their tags and their contents as bytes.
type fields struct {
	b    string
	tags []int
	l    []string
}

func splits() []fields {
	long := "\xac\x02" + strings.Repeat("q", 300)
	return []fields{
		{"", nil, nil},
		{"\x02\x00", []int{1}, []string{"\x00"}},
		{"\x02\x05", []int{1}, []string{"\x05"}},
		{"\x02\xac\x02", []int{1}, []string{"\xac\x02"}},
		{"\x03\x00", []int{1}, []string{"\x00"}},
		{"\x03\x01a", []int{1}, []string{"\x01a"}},
		{"\x02\x00\x04\x01", []int{1, 2}, []string{"\x00", "\x01"}},
		{"\x03\x00\x05\x00\x07\x00", []int{1, 2, 3}, []string{"\x00", "\x00", "\x00"}},
		// What is within a span is no field of these.
		{"\x05\x02\x02\x05\x06\x02", []int{2, 3}, []string{"\x02\x02\x05", "\x02"}},
		{"\x03" + long + "\x80\x01" + nine + "\x01" + "\xff\x03" + long, []int{1, 64, 255}, []string{long, nine + "\x01", long}},
		{"\xfe\x03\x07", []int{255}, []string{"\x07"}},
		{"\xfd\x03\x00\xff\x03\x01\xff", []int{254, 255}, []string{"\x00", "\x01\xff"}},
	}
}

// 4.2.
func TestSplit(t *testing.T) {
	for _, x := range splits() {
		tags, l, e := Split(x.b)
		if !slices.Equal(tags, x.tags) || !slices.Equal(l, x.l) || e != api.OK {
			t.Errorf("Split(%.60q) = %d, %.60q, %v", x.b, tags, l, e)
		}
	}
}

// 4.2: as many fields as there can be.
func TestSplitAll(t *testing.T) {
	var b string
	for tag := 1; tag <= 255; tag++ {
		b += put(uint64(2*tag+tag%2)) + "\x00"
	}
	tags, l, e := Split(b)
	if len(tags) != 255 || len(l) != 255 || e != api.OK {
		t.Fatal(tags, l, e)
	}
	for i := range tags {
		if tags[i] != i+1 || l[i] != "\x00" {
			t.Errorf("%d: %d, %q", i, tags[i], l[i])
		}
	}
	if tags, l, e := Split(b + "\x80\x04\x00"); len(tags) != 0 || len(l) != 0 || e != api.ErrTag {
		t.Error(tags, l, e)
	}
}

// 4.2, R2: what is wrong first, from the front on: a key, its tag's place, its content.
func TestSplitWrong(t *testing.T) {
	l := []wrong{
		// The tag is the same, or falls, by whatever wires.
		{"\x02\x05\x02\x06", api.ErrTag},
		{"\x02\x05\x03\x00", api.ErrTag},
		{"\x03\x00\x02\x05", api.ErrTag},
		{"\x03\x00\x03\x00", api.ErrTag},
		{"\x04\x05\x02\x06", api.ErrTag},
		{"\x02\x01\x06\x01\x04\x01", api.ErrTag},
		{"\xff\x03\x00\xfe\x03\x00", api.ErrTag},
		{"\xff\x03\x00\x02\x00", api.ErrTag},
		// The content of such a field is wrong, too: its key stands ahead.
		{"\x02\x05\x02", api.ErrTag},
		{"\x02\x05\x02\x80\x00", api.ErrTag},
		{"\x02\x05\x03\x05a", api.ErrTag},
		// What is wrong with a field counts ahead of what is wrong behind it.
		{"\x02\x80\x00\x02\x05", api.ErrForm},
		{"\x02\x80\x00\x80", api.ErrForm},
		{"\x04\x00\x02\x00\x80\x00", api.ErrTag},
		{"\x04\x00\x80\x00\x02\x00", api.ErrForm},
		{"\x03\x05ab", api.ErrShort},
		{"\x05\x05\x02\x00", api.ErrShort},
		{"\x03\x03\x02\x00", api.ErrShort},
		{"\x02", api.ErrShort},
		{"\x03", api.ErrShort},
	}
	ahead := []string{"", "\x02\x07", "\x03\x01a", "\x02\x07\x05\x02\xff\xff"}
	for _, a := range ahead {
		for _, x := range wrongNumbers() {
			if x.b != "" {
				l = append(l, wrong{a + x.b, x.e})
			}
			l = append(l, wrong{a + "\x10" + x.b, x.e}, wrong{a + "\x11" + x.b, x.e}, wrong{a + "\xfe\x03" + x.b, x.e})
		}
		for _, b := range wrongTags() {
			l = append(l, wrong{a + b, api.ErrTag}, wrong{a + b + "\x00", api.ErrTag}, wrong{a + b + "\x80", api.ErrTag})
		}
		for _, b := range cut() {
			l = append(l, wrong{a + "\x11" + b, api.ErrShort})
		}
	}
	for _, x := range l {
		if tags, l, e := Split(x.b); len(tags) != 0 || len(l) != 0 || e != x.e {
			t.Errorf("Split(%.60q) = %d, %.60q, %v, not %v", x.b, tags, l, e, x.e)
		}
	}
}

// 4.2: no field may be cut off, wherever; between fields nothing is cut off.
func TestSplitCut(t *testing.T) {
	for _, x := range splits() {
		at, i := 0, 0
		for k := range min(len(x.b), 700) {
			tags, l, e := Split(x.b[:k])
			if k == at {
				if !slices.Equal(tags, x.tags[:i]) || !slices.Equal(l, x.l[:i]) || e != api.OK {
					t.Errorf("Split(%.60q) = %d, %.60q, %v", x.b[:k], tags, l, e)
				}
				at += len(put(uint64(2*x.tags[i]))) + len(x.l[i])
				i++
			} else if len(tags) != 0 || len(l) != 0 || e != api.ErrShort {
				t.Errorf("Split(%.60q) = %d, %.60q, %v", x.b[:k], tags, l, e)
			}
		}
	}
}

// joins are fields whose contents are texts.
func joins() []fields {
	long := strings.Repeat("q", 300)
	return []fields{
		{"", nil, nil},
		{"", []int{}, []string{}},
		{"\x03\x00", []int{1}, []string{""}},
		{"\x03\x01a", []int{1}, []string{"a"}},
		{"\x03\x02\x02\x00", []int{1}, []string{"\x02\x00"}},
		{"\x03\x01a\x0f\x00\xff\x03\x03xyz", []int{1, 7, 255}, []string{"a", "", "xyz"}},
		{"\x7f\x00\x81\x01\x01\xff", []int{63, 64}, []string{"", "\xff"}},
		{"\xfd\x03\xac\x02" + long + "\xff\x03\x00", []int{254, 255}, []string{long, ""}},
		{"\x03\x80\x80\x04" + strings.Repeat("\x80", 1<<16), []int{1}, []string{strings.Repeat("\x80", 1<<16)}},
	}
}

// 4.3.
func TestJoin(t *testing.T) {
	for _, x := range joins() {
		if b, e := Join(x.tags, x.l); b != x.b || e != api.OK {
			t.Errorf("Join(%d, %.60q) = %.60q, %v", x.tags, x.l, b, e)
		}
	}
}

// 4.3, R2: that there are not as many counts ahead of what the tags are.
func TestJoinWrong(t *testing.T) {
	l := []struct {
		tags []int
		n    int // how many texts
		e    api.Errno
	}{
		{nil, 1, api.ErrForm},
		{[]int{1}, 0, api.ErrForm},
		{[]int{1, 2}, 1, api.ErrForm},
		{[]int{1}, 2, api.ErrForm},
		{[]int{0}, 2, api.ErrForm},
		{[]int{256}, 0, api.ErrForm},
		{[]int{1, 1}, 3, api.ErrForm},
		{[]int{2, 1}, 1, api.ErrForm},
		{[]int{1, 1}, 2, api.ErrTag},
		{[]int{2, 1}, 2, api.ErrTag},
		{[]int{255, 255}, 2, api.ErrTag},
		{[]int{255, 1}, 2, api.ErrTag},
		{[]int{1, 3, 2}, 3, api.ErrTag},
		{[]int{1, 2, 2, 3}, 4, api.ErrTag},
	}
	for _, x := range l {
		if b, e := Join(x.tags, make([]string, x.n)); b != "" || e != x.e {
			t.Errorf("Join(%d, %d texts) = %q, %v, not %v", x.tags, x.n, b, e, x.e)
		}
	}
	for _, tag := range noTags() {
		for _, tags := range [][]int{{tag}, {tag, 5}, {1, tag}, {255, tag}, {1, tag, 2}} {
			if b, e := Join(tags, make([]string, len(tags))); b != "" || e != api.ErrTag {
				t.Errorf("Join(%d) = %q, %v", tags, b, e)
			}
			if b, e := Join(tags, make([]string, len(tags)+1)); b != "" || e != api.ErrForm {
				t.Errorf("Join(%d, and a text more) = %q, %v", tags, b, e)
			}
		}
	}
}

// put is a number's bytes by the words of chapter 1.
func put(n uint64) string {
	var b []byte
	for ; n >= 128; n /= 128 {
		b = append(b, byte(128+n%128))
	}
	return string(append(b, byte(n)))
}

// spanOf is the span of a text.
func spanOf(s string) string {
	return put(uint64(len(s))) + s
}

// 4.4: tags by chance, texts by chance.
func TestJoinIsSplit(t *testing.T) {
	r := rand.New(rand.NewSource(4))
	all := make([]byte, 1<<15)
	r.Read(all)
	for range 3000 {
		var tags []int
		var texts, spans []string
		for tag := 1 + r.Intn(3); tag <= 255; tag += 1 + r.Intn(1+r.Intn(255)) {
			n := r.Intn(4)
			if r.Intn(20) == 0 {
				n = r.Intn(len(all))
			}
			at := r.Intn(len(all) - n + 1)
			s := string(all[at : at+n])
			tags, texts, spans = append(tags, tag), append(texts, s), append(spans, spanOf(s))
		}
		b, e := Join(tags, texts)
		if e != api.OK {
			t.Fatalf("Join(%d) = %v", tags, e)
		}
		got, l, e := Split(b)
		if !slices.Equal(got, tags) || !slices.Equal(l, spans) || e != api.OK {
			t.Fatalf("Split(Join(%d)) = %d, %v", tags, got, e)
		}
	}
}

// take tells by the words of chapter 1 what a number's bytes are, how many, and what is wrong.
func take(b string) (uint64, int, api.Errno) {
	var n, unit uint64 = 0, 1
	for i := 0; i < 10; i++ {
		if i == len(b) {
			return 0, 0, api.ErrShort
		}
		c := uint64(b[i])
		n += c % 128 * unit
		unit *= 128
		if c >= 128 {
			continue
		}
		if c == 0 && i > 0 || i == 9 && c > 1 {
			return 0, 0, api.ErrForm
		}
		return n, i + 1, api.OK
	}
	return 0, 0, api.ErrForm
}

// skip tells by the chapter's words how many bytes a content has.
func skip(b string, w int) (int, api.Errno) {
	if w != asNumber && w != asSpan {
		return 0, api.ErrKind
	}
	n, k, e := take(b)
	if w == asNumber || e != api.OK {
		return k, e
	}
	if n > uint64(len(b)-k) {
		return 0, api.ErrShort
	}
	return k + int(n), api.OK
}

// split tells by the chapter's words of which fields bytes are, by the places at which they stand.
func split(b string) (f fields, e api.Errno) {
	f.b = b
	for at := 0; at < len(b); {
		n, k, e := take(b[at:])
		if e != api.OK {
			return fields{}, e
		}
		if n < 2 || n > 511 || len(f.tags) > 0 && n/2 <= uint64(f.tags[len(f.tags)-1]) {
			return fields{}, api.ErrTag
		}
		m, e := skip(b[at+k:], int(n%2))
		if e != api.OK {
			return fields{}, e
		}
		f.tags = append(f.tags, int(n/2))
		f.l = append(f.l, b[at+k:at+k+m])
		at += k + m
	}
	return f, api.OK
}

// held asks of any bytes and any wire whether Take, Skip and Split do what the chapter says.
func held(t *testing.T, b string, w int) {
	t.Helper()
	n, k, e := take(b)
	if e == api.OK && (n < 2 || n > 511) {
		n, k, e = 0, 0, api.ErrTag
	}
	if tag, w, m, e2 := Take(b); tag != int(n/2) || w != int(n%2) || m != k || e2 != e {
		t.Fatalf("Take(%.60q) = %d, %d, %d, %v, not %d, %d, %v", b, tag, w, m, e2, n, k, e)
	}
	for _, x := range []int{w, asNumber, asSpan} {
		k, e := skip(b, x)
		if m, e2 := Skip(b, x); m != k || e2 != e {
			t.Fatalf("Skip(%.60q, %d) = %d, %v, not %d, %v", b, x, m, e2, k, e)
		}
	}
	f, e := split(b)
	tags, l, e2 := Split(b)
	if !slices.Equal(tags, f.tags) || !slices.Equal(l, f.l) || e2 != e {
		t.Fatalf("Split(%.60q) = %d, %.60q, %v, not %d, %.60q, %v", b, tags, l, e2, f.tags, f.l, e)
	}
}

// 4.1, 4.2, R1, R2, R5: bytes by chance; they are made of fields mostly, of which then a byte is changed.
func TestAnyBytes(t *testing.T) {
	r := rand.New(rand.NewSource(5))
	good := 0
	for range 200000 {
		var b []byte
		for tag := r.Intn(3); tag < 300 && len(b) < 40; tag += r.Intn(1 + r.Intn(100)) {
			w := r.Intn(2)
			b = append(b, put(uint64(2*tag+w))...)
			if w == asNumber {
				b = append(b, put(r.Uint64()>>r.Intn(64))...)
			} else {
				s := make([]byte, r.Intn(6))
				r.Read(s)
				b = append(b, spanOf(string(s))...)
			}
		}
		if len(b) > 0 && r.Intn(2) == 0 {
			b[r.Intn(len(b))] = byte(r.Intn(256))
		}
		held(t, string(b), r.Intn(5)-2)
		if _, e := split(string(b)); e == api.OK {
			good++
		}
	}
	if good < 10000 || good > 190000 {
		t.Errorf("%d of the bytes were fields", good)
	}
}

// 4.1, 4.2: all bytes of up to two, and of three with a key ahead of them.
func TestShortBytes(t *testing.T) {
	held(t, "", 2)
	for a := range 256 {
		held(t, string([]byte{byte(a)}), -1)
		for b := range 256 {
			held(t, string([]byte{byte(a), byte(b)}), 2)
			held(t, string([]byte{2, byte(a), byte(b)}), 3)
			held(t, string([]byte{3, 0, byte(a), byte(b)}), 3)
		}
	}
}

// apart tells whether two texts share no memory.
func apart(a, b string) bool {
	if a == "" || b == "" {
		return true
	}
	p, q := uintptr(unsafe.Pointer(unsafe.StringData(a))), uintptr(unsafe.Pointer(unsafe.StringData(b)))
	return p+uintptr(len(a)) <= q || q+uintptr(len(b)) <= p
}

// R4: what is handed out is own memory.
func TestOwnMemory(t *testing.T) {
	b := strings.Clone("\x02\xac\x02\x05\x05hello\x07\x00")
	_, l, e := Split(b)
	if len(l) != 3 || e != api.OK {
		t.Fatal(l, e)
	}
	_, m, _ := Split(b)
	for i, s := range l {
		if !apart(s, b) || !apart(s, m[i]) {
			t.Errorf("Split(%q): %q is a piece of it", b, s)
		}
	}
	tags, texts := []int{1, 2}, []string{"hello", ""}
	j, _ := Join(tags, texts)
	if !apart(j, texts[0]) || tags[0] != 1 || tags[1] != 2 || texts[0] != "hello" || texts[1] != "" {
		t.Errorf("Join = %q of %d, %q", j, tags, texts)
	}
}

// R4: what lies behind a list's end is neither read nor changed.
func TestBehindEnd(t *testing.T) {
	tags, texts := []int{1, 2, 1}, []string{"a", "b", "c"}
	b, e := Join(tags[:2], texts[:2])
	if b != "\x03\x01a\x05\x01b" || e != api.OK || tags[2] != 1 || texts[2] != "c" {
		t.Errorf("Join = %q, %v, %d, %q", b, e, tags, texts)
	}
}

func FuzzSplit(f *testing.F) {
	for _, x := range splits() {
		f.Add(x.b, 0)
	}
	for _, x := range joins() {
		f.Add(x.b, 1)
	}
	for _, b := range cut() {
		f.Add("\x02\x00\x05"+b, -1)
	}
	for _, x := range wrongNumbers() {
		f.Add("\x02\x00"+x.b, 2)
	}
	f.Fuzz(held)
}
