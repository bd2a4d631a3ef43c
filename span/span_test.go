package span

import (
	"math"
	"math/rand"
	"strings"
	"testing"
	"unsafe"

	"concourse/api"
)

// nine are the bytes of a number of ten bytes ahead of its last one.
var nine = strings.Repeat("\x80", 9)

// row is a text and its span, written out from the chapter's words.
type row struct {
	s string
	b string
}

func rows() []row {
	long := func(n int) string { return strings.Repeat("q", n) }
	return []row{
		{"", "\x00"},
		{"a", "\x01a"},
		{"ab", "\x02ab"},
		{"\x00", "\x01\x00"},
		{"\xff\x80", "\x02\xff\x80"},
		{"\x02ab", "\x03\x02ab"},
		{long(127), "\x7f" + long(127)},
		{long(128), "\x80\x01" + long(128)},
		{long(300), "\xac\x02" + long(300)},
		{long(1<<14 - 1), "\xff\x7f" + long(1<<14-1)},
		{long(1 << 14), "\x80\x80\x01" + long(1<<14)},
	}
}

// tails are what may stand behind a span.
func tails() []string {
	return []string{"", "\x00", "\x01", "\x80", "x", "\xff\xff", "\x02ab"}
}

// wrong is bytes that begin with no span of at most most, and their error.
type wrong struct {
	b    string
	most int
	e    api.Errno
}

// wrongNumbers are wrong already as numbers.
func wrongNumbers() []wrong {
	return []wrong{
		{"", 9, api.ErrShort},
		{"", -1, api.ErrShort},
		{"\x80", 9, api.ErrShort},
		{"\xff\xff", 0, api.ErrShort},
		{nine, 9, api.ErrShort},
		{"\x80\x00", 9, api.ErrForm},
		{"\x82\x00ab", 9, api.ErrForm},
		{"\xff\x00", 0, api.ErrForm},
		{nine + "\x00", 9, api.ErrForm},
		{nine + "\x02", 9, api.ErrForm},
		{nine + "\x80\x01", 9, api.ErrForm},
	}
}

// longNumbers are numbers that are more than may be.
func longNumbers() []wrong {
	return []wrong{
		{"\x01a", 0, api.ErrLong},
		{"\x01a", -1, api.ErrLong},
		{"\x01a", math.MinInt, api.ErrLong},
		{"\x03abc", 2, api.ErrLong},
		{"\x80\x01", 127, api.ErrLong},
		// Of these the bytes end, too: what is too long is looked for first.
		{"\x03", 2, api.ErrLong},
		{"\x03ab", 2, api.ErrLong},
		{"\x80\x80\x01", 1<<14 - 1, api.ErrLong},
		// No int holds these.
		{nine + "\x01", math.MaxInt, api.ErrLong},
		{nine + "\x01", -1, api.ErrLong},
		{"\x83" + nine[1:] + "\x01abc", 3, api.ErrLong},
		{strings.Repeat("\xff", 9) + "\x01", math.MaxInt, api.ErrLong},
		{strings.Repeat("\xff", 9) + "\x01", 0, api.ErrLong},
	}
}

// shortTexts are spans that are cut off behind their lengths.
func shortTexts() []wrong {
	return []wrong{
		{"\x01", 1, api.ErrShort},
		{"\x02a", 2, api.ErrShort},
		{"\x03ab", 9, api.ErrShort},
		{"\x80\x01" + strings.Repeat("a", 127), 128, api.ErrShort},
		// Lengths that an int holds, but no text has.
		{strings.Repeat("\xff", 8) + "\x7f", math.MaxInt, api.ErrShort},
		{strings.Repeat("\xff", 8) + "\x7f" + "abc", math.MaxInt, api.ErrShort},
		{"\xf6" + strings.Repeat("\xff", 7) + "\x7f" + "abc", math.MaxInt, api.ErrShort},
	}
}

func wrongSpans() []wrong {
	l := append(wrongNumbers(), longNumbers()...)
	return append(l, shortTexts()...)
}

// 2.1.
func TestPut(t *testing.T) {
	for _, x := range rows() {
		if b := Put(x.s); b != x.b {
			t.Errorf("Put(%.60q) = %.60q, not %.60q", x.s, b, x.b)
		}
	}
}

// 2.1: a length of just most is taken, one more is not.
func TestTake(t *testing.T) {
	for _, x := range rows() {
		for _, tail := range tails() {
			for _, most := range []int{len(x.s), len(x.s) + 1, math.MaxInt} {
				s, k, e := Take(x.b+tail, most)
				if s != x.s || k != len(x.b) || e != api.OK {
					t.Errorf("Take(%.60q, %d) = %.60q, %d, %v", x.b+tail, most, s, k, e)
				}
			}
			if len(x.s) == 0 {
				continue
			}
			for _, most := range []int{len(x.s) - 1, 0, -1, math.MinInt} {
				s, k, e := Take(x.b+tail, most)
				if s != "" || k != 0 || e != api.ErrLong {
					t.Errorf("Take(%.60q, %d) = %.60q, %d, %v", x.b+tail, most, s, k, e)
				}
			}
		}
	}
}

// 2.1: of a most below 0 a length is held against 0, so the empty text is taken.
func TestTakeEmpty(t *testing.T) {
	for _, most := range []int{math.MinInt, -2, -1, 0, 1, math.MaxInt} {
		if s, k, e := Take("\x00a", most); s != "" || k != 1 || e != api.OK {
			t.Errorf("Take(0 a, %d) = %.60q, %d, %v", most, s, k, e)
		}
	}
}

// 2.1, R2.
func TestTakeWrong(t *testing.T) {
	for _, x := range wrongSpans() {
		if s, k, e := Take(x.b, x.most); s != "" || k != 0 || e != x.e {
			t.Errorf("Take(%.60q, %d) = %.60q, %d, %v, not %v", x.b, x.most, s, k, e, x.e)
		}
	}
}

// 2.1: bytes that end ahead of the span's end, wherever they are cut.
func TestTakeCut(t *testing.T) {
	for _, x := range rows() {
		for k := range min(len(x.b), 400) {
			if s, n, e := Take(x.b[:k], len(x.s)); s != "" || n != 0 || e != api.ErrShort {
				t.Errorf("Take(%.60q, %d) = %.60q, %d, %v", x.b[:k], len(x.s), s, n, e)
			}
		}
	}
}

// 2.2: a row of all kinds of things, step by step.
func TestReader(t *testing.T) {
	r := Read("\xac\x02" + "\x05" + "\x02hi" + "\x00" + "\xff\xffrest")
	at := func(k int, e api.Errno) {
		t.Helper()
		if r.At() != k || r.Done() != e {
			t.Fatalf("At() = %d, Done() = %v, not %d, %v", r.At(), r.Done(), k, e)
		}
	}
	at(0, api.ErrForm)
	if n := r.Num(); n != 300 {
		t.Fatal(n)
	}
	at(2, api.ErrForm)
	if n := r.Int(5); n != 5 {
		t.Fatal(n)
	}
	at(3, api.ErrForm)
	if s := r.Text(2); s != "hi" {
		t.Fatalf("%.60q", s)
	}
	at(6, api.ErrForm)
	if s := r.Text(-7); s != "" {
		t.Fatalf("%.60q", s)
	}
	at(7, api.ErrForm)
	if s := r.Rest(); s != "\xff\xffrest" {
		t.Fatalf("%.60q", s)
	}
	at(13, api.OK)
	if s := r.Rest(); s != "" {
		t.Fatalf("%.60q", s)
	}
	at(13, api.OK)
	if n := r.Num(); n != 0 {
		t.Fatal(n)
	}
	at(13, api.ErrShort)
}

// 2.2: that something is left is no error that a later step would stop at.
func TestDoneAhead(t *testing.T) {
	r := Read("\x01\x02")
	if r.Done() != api.ErrForm || r.Num() != 1 || r.Done() != api.ErrForm || r.Num() != 2 || r.Done() != api.OK {
		t.Errorf("%+v", r)
	}
}

// 2.2.
func TestNum(t *testing.T) {
	for b, n := range map[string]uint64{
		"\x00":                             0,
		"\x7f":                             127,
		"\x80\x01":                         128,
		nine + "\x01":                      1 << 63,
		strings.Repeat("\xff", 9) + "\x01": math.MaxUint64,
		strings.Repeat("\xff", 8) + "\x7f": math.MaxInt64,
		strings.Repeat("\x80", 8) + "\x01": 1 << 56,
	} {
		for _, tail := range tails() {
			r := Read(b + tail)
			if m := r.Num(); m != n || r.At() != len(b) || r.Rest() != tail || r.Done() != api.OK {
				t.Errorf("%.60q: Num() = %d, %+v", b+tail, m, r)
			}
		}
	}
}

// 2.2: a number of just most is taken, one more is not; below 0 most is 0.
func TestInt(t *testing.T) {
	for _, x := range []struct {
		b    string
		most int
		n    int
		e    api.Errno
	}{
		{"\x00", 0, 0, api.OK},
		{"\x00", -1, 0, api.OK},
		{"\x00", math.MinInt, 0, api.OK},
		{"\x01", 1, 1, api.OK},
		{"\x01", 0, 0, api.ErrLong},
		{"\x01", -1, 0, api.ErrLong},
		{"\x01", math.MinInt, 0, api.ErrLong},
		{"\xac\x02", 300, 300, api.OK},
		{"\xac\x02", 299, 0, api.ErrLong},
		{"\xac\x02", math.MaxInt, 300, api.OK},
		{strings.Repeat("\xff", 8) + "\x7f", math.MaxInt, math.MaxInt, api.OK},
		{strings.Repeat("\xff", 8) + "\x7f", math.MaxInt - 1, 0, api.ErrLong},
	} {
		r := Read(x.b + "z")
		if n := r.Int(x.most); n != x.n {
			t.Errorf("%.60q: Int(%d) = %d, not %d", x.b, x.most, n, x.n)
		}
		if x.e == api.OK && (r.At() != len(x.b) || r.Rest() != "z" || r.Done() != api.OK) {
			t.Errorf("%.60q: behind Int(%d): %+v", x.b, x.most, r)
		}
		if x.e != api.OK {
			stopped(t, r, 0, x.e)
		}
	}
}

// 2.2: as Take.
func TestText(t *testing.T) {
	for _, x := range rows() {
		for _, tail := range tails() {
			r := Read(x.b + tail)
			if s := r.Text(len(x.s)); s != x.s || r.At() != len(x.b) || r.Rest() != tail || r.Done() != api.OK {
				t.Errorf("%.60q: Text = %.60q, %+v", x.b+tail, s, r)
			}
		}
	}
}

// 2.2: Rest takes any bytes, those that are no number's too.
func TestRest(t *testing.T) {
	for _, b := range append(tails(), nine+"\x80", "\x80\x00", strings.Repeat("\xff", 3000)) {
		r := Read(b)
		if s := r.Rest(); s != b || r.At() != len(b) || r.Done() != api.OK {
			t.Errorf("%.60q: Rest() = %.60q, %+v", b, s, r)
		}
	}
}

// stopped asks of a reader that came to an error whether each step takes nothing, and changes nothing.
func stopped(t *testing.T, r *Reader, at int, e api.Errno) {
	t.Helper()
	for range 2 {
		if r.At() != at || r.Done() != e {
			t.Errorf("At() = %d, Done() = %v, not %d, %v", r.At(), r.Done(), at, e)
		}
		if n := r.Num(); n != 0 {
			t.Errorf("behind %v: Num() = %d", e, n)
		}
		if n := r.Int(math.MaxInt); n != 0 {
			t.Errorf("behind %v: Int() = %d", e, n)
		}
		if s := r.Text(math.MaxInt); s != "" {
			t.Errorf("behind %v: Text() = %.60q", e, s)
		}
		if s := r.Rest(); s != "" {
			t.Errorf("behind %v: Rest() = %.60q", e, s)
		}
	}
}

// 2.2, R2: behind an error nothing is taken, and the first error stays; At tells the bytes ahead of what was wrong.
func TestReaderWrong(t *testing.T) {
	ahead := "\x07\x02hi"
	begin := func(b string) *Reader {
		r := Read(ahead + b)
		if r.Num() != 7 || r.Text(2) != "hi" {
			t.Fatalf("%.60q: %+v", ahead+b, r)
		}
		return r
	}
	for _, x := range wrongNumbers() {
		r := begin(x.b)
		if n := r.Num(); n != 0 {
			t.Errorf("%.60q: Num() = %d", x.b, n)
		}
		stopped(t, r, len(ahead), x.e)
	}
	for _, x := range append(wrongNumbers(), longNumbers()...) {
		r := begin(x.b)
		if n := r.Int(x.most); n != 0 {
			t.Errorf("%.60q: Int(%d) = %d", x.b, x.most, n)
		}
		stopped(t, r, len(ahead), x.e)
	}
	for _, x := range wrongSpans() {
		r := begin(x.b)
		if s := r.Text(x.most); s != "" {
			t.Errorf("%.60q: Text(%d) = %.60q", x.b, x.most, s)
		}
		stopped(t, r, len(ahead), x.e)
	}
}

// 2.2: behind an error what could be taken is not, by any step.
func TestBehindError(t *testing.T) {
	r := Read("\x05\x02hi\x01")
	if n := r.Int(4); n != 0 {
		t.Error(n)
	}
	stopped(t, r, 0, api.ErrLong)
}

// 2.2: one that no call made reads no bytes.
func TestReaderUnmade(t *testing.T) {
	for _, step := range []func(r *Reader) bool{
		func(r *Reader) bool { return r.Num() == 0 },
		func(r *Reader) bool { return r.Int(9) == 0 },
		func(r *Reader) bool { return r.Text(9) == "" },
	} {
		for _, r := range []*Reader{{}, new(Reader), Read("")} {
			if r.At() != 0 || r.Done() != api.OK || r.Rest() != "" || r.At() != 0 || r.Done() != api.OK {
				t.Errorf("%+v", r)
			}
			if !step(r) {
				t.Errorf("%+v", r)
			}
			stopped(t, r, 0, api.ErrShort)
		}
	}
}

// 2.2, R1: of nil all answers are zero values.
func TestReaderNil(t *testing.T) {
	var r *Reader
	stopped(t, r, 0, api.OK)
}

// 2.2, R5: readers of the same bytes do not hang on one another.
func TestReadersApart(t *testing.T) {
	b := "\x01\x02hi\x03"
	p, q := Read(b), Read(b)
	if p.Num() != 1 || p.Text(9) != "hi" || q.At() != 0 || q.Int(0) != 0 || q.Done() != api.ErrLong {
		t.Errorf("%+v, %+v", p, q)
	}
	if p.Int(3) != 3 || p.Done() != api.OK || p.At() != 5 {
		t.Errorf("%+v", p)
	}
	stopped(t, q, 0, api.ErrLong)
}

// 2.3.
func TestPutIsTaken(t *testing.T) {
	r := rand.New(rand.NewSource(1))
	all := make([]byte, 1<<16)
	r.Read(all)
	sizes := []int{0, 1, 2, 126, 127, 128, 129, 1024, 1<<14 - 1, 1 << 14, 1<<14 + 1, len(all)}
	for range 200 {
		sizes = append(sizes, r.Intn(600))
	}
	var row string
	for _, n := range sizes {
		s := string(all[:n])
		row += Put(s)
		for _, tail := range tails() {
			got, k, e := Take(Put(s)+tail, n)
			if got != s || k != len(Put(s)) || e != api.OK {
				t.Fatalf("Take(Put(%d bytes) + %.60q) = %d bytes, %d, %v", n, tail, len(got), k, e)
			}
		}
	}
	q := Read(row)
	for _, n := range sizes {
		if s := q.Text(n); s != string(all[:n]) {
			t.Fatalf("Text(%d) = %d bytes, %+v", n, len(s), q.Done())
		}
	}
	if q.Done() != api.OK || q.At() != len(row) {
		t.Fatalf("At() = %d of %d, Done() = %v", q.At(), len(row), q.Done())
	}
}

// model tells by the chapter's words, byte by byte, what a number's bytes are, how many, and what is wrong.
func model(b string) (uint64, int, api.Errno) {
	var n, unit uint64 = 0, 1
	for i := 0; i < 10; i++ {
		if i == len(b) {
			return 0, 0, api.ErrShort
		}
		c := uint64(b[i])
		n += c % 128 * unit
		unit *= 128
		if c >= 128 {
			continue
		}
		if c == 0 && i > 0 || i == 9 && c > 1 {
			return 0, 0, api.ErrForm
		}
		return n, i + 1, api.OK
	}
	return 0, 0, api.ErrForm
}

// taken is what a step is to take: a number or a text, of so many bytes, or an error.
type taken struct {
	n uint64
	s string
	k int
	e api.Errno
}

// Steps by the lower two bits of a byte; the others tell what is the most.
const (
	stepNum = iota
	stepInt
	stepText
	stepRest
)

func mostOf(step byte) int {
	return int(step>>2) - 1
}

// expect tells by the chapter's words what a step takes of the bytes that are left.
func expect(step byte, left string) taken {
	if step&3 == stepRest {
		return taken{s: left, k: len(left)}
	}
	n, k, e := model(left)
	switch {
	case e != api.OK:
		return taken{e: e}
	case step&3 == stepNum:
		return taken{n: n, k: k}
	case n > uint64(max(mostOf(step), 0)):
		return taken{e: api.ErrLong}
	case step&3 == stepInt:
		return taken{n: n, k: k}
	case n > uint64(len(left)-k):
		return taken{e: api.ErrShort}
	}
	return taken{s: left[k : k+int(n)], k: k + int(n)}
}

// held asks of any bytes and any steps whether Take and a reader do what the chapter says.
func held(t *testing.T, b, steps string) {
	t.Helper()
	r := Read(b)
	at, bad := 0, api.OK
	for i := range len(steps) {
		want := expect(steps[i], b[at:])
		most := mostOf(steps[i])
		if steps[i]&3 == stepText {
			if s, k, e := Take(b[at:], most); s != want.s || k != want.k || e != want.e {
				t.Fatalf("Take(%.60q, %d) = %.60q, %d, %v, not %+v", b[at:], most, s, k, e, want)
			}
		}
		if bad != api.OK {
			want = taken{}
		} else {
			bad = want.e
		}
		at += want.k
		var n uint64
		var s string
		switch steps[i] & 3 {
		case stepNum:
			n = r.Num()
		case stepInt:
			n = uint64(r.Int(most))
		case stepText:
			s = r.Text(most)
		case stepRest:
			s = r.Rest()
		}
		if n != want.n || s != want.s || r.At() != at {
			t.Fatalf("Read(%.60q), steps %.60q, at %d: %d, %.60q, At() = %d, not %+v", b, steps, i, n, s, r.At(), want)
		}
		done := bad
		if done == api.OK && at < len(b) {
			done = api.ErrForm
		}
		if e := r.Done(); e != done {
			t.Fatalf("Read(%.60q), steps %.60q, at %d: Done() = %v, not %v", b, steps, i, e, done)
		}
	}
}

// 2.1, 2.2, R1, R2, R5.
func TestAnyBytes(t *testing.T) {
	r := rand.New(rand.NewSource(2))
	for range 100000 {
		b := make([]byte, r.Intn(30))
		for i := range b {
			switch r.Intn(4) {
			case 0:
				b[i] = byte(r.Intn(256))
			case 1:
				b[i] = 0x80 | byte(r.Intn(3))
			default:
				b[i] = byte(r.Intn(8))
			}
		}
		steps := make([]byte, r.Intn(12))
		for i := range steps {
			steps[i] = byte(r.Intn(256))
			// Behind a Rest there is little to see: fewer of them.
			if steps[i]&3 == stepRest && r.Intn(4) > 0 {
				steps[i]--
			}
		}
		held(t, string(b), string(steps))
	}
}

// apart tells whether two texts share no memory.
func apart(a, b string) bool {
	if a == "" || b == "" {
		return true
	}
	p, q := uintptr(unsafe.Pointer(unsafe.StringData(a))), uintptr(unsafe.Pointer(unsafe.StringData(b)))
	return p+uintptr(len(a)) <= q || q+uintptr(len(b)) <= p
}

// R4: what is handed out is own memory.
func TestOwnMemory(t *testing.T) {
	b := strings.Clone("\x05hello\x05hello")
	s, _, e := Take(b, 9)
	if e != api.OK || !apart(s, b) {
		t.Errorf("Take(%.60q) = %.60q, %v", b, s, e)
	}
	r := Read(b)
	x, y := r.Text(9), r.Rest()
	if x != "hello" || y != "\x05hello" || !apart(x, b) || !apart(y, b) || !apart(x, y) {
		t.Errorf("%.60q, %.60q", x, y)
	}
	if p := Put(b); !apart(p, b) || !apart(p, Put(b)) {
		t.Errorf("%.60q", p)
	}
}

func FuzzReader(f *testing.F) {
	for _, x := range rows() {
		f.Add(x.b, "\xfe\x00\xff")
	}
	for _, x := range wrongSpans() {
		f.Add(x.b, "\x26\x00\x03")
	}
	f.Fuzz(held)
}
