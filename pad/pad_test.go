package pad

import (
	"math"
	"math/rand"
	"slices"
	"strings"
	"testing"
	"unsafe"

	"concourse/api"
)

// body is a text of n bytes, none of which is as the one ahead of it; the last one is not 0.
func body(n int) string {
	b := make([]byte, n)
	for i := range b {
		b[i] = byte(i*7 + 1)
	}
	if n > 0 && b[n-1] == 0 {
		b[n-1] = 'z'
	}
	return string(b)
}

// zeros is n bytes 0.
func zeros(n int) string {
	return strings.Repeat("\x00", n)
}

// texts are of n bytes: any bytes, all 0, all 255, with 0 at the front, at the end and at both, and such as look padded.
func texts(n int) []string {
	l := []string{body(n), zeros(n), strings.Repeat("\xff", n)}
	if n > 1 {
		l = append(l, "\x00"+body(n-1), body(n-1)+"\x00", "\x00\x01"+body(n-2))
	}
	if n > 2 {
		l = append(l, "\x00"+body(n-2)+"\x00", body(n-2)+"\x00\x00", string([]byte{byte(n / 256), byte(n % 256)})+body(n-2))
	}
	return l
}

// room is a class, and the shortest and the longest text of it, written out from the chapter's words.
type room struct {
	class, from, to int
}

func rooms() []room {
	return []room{
		{32, 0, 30},
		{64, 31, 62},
		{128, 63, 126},
		{256, 127, 254},
		{512, 255, 510},
		{1024, 511, 1022},
	}
}

// classOf is a length's class by the chapter's words; 0: there is none.
func classOf(n int) int {
	for _, r := range rooms() {
		if n >= r.from && n <= r.to {
			return r.class
		}
	}
	return 0
}

// padded is a text that has a class, padded by the chapter's words.
func padded(s string) string {
	n := len(s)
	b := make([]byte, classOf(n))
	b[0], b[1] = byte(n/256), byte(n%256)
	for i := range n {
		b[2+i] = s[i]
	}
	return string(b)
}

// unpadded is the text of which bytes are the padded one by the chapter's words, and whether there is one.
func unpadded(b string) (string, bool) {
	if len(b) < 2 {
		return "", false
	}
	n := 256*int(b[0]) + int(b[1])
	if n > 1022 || classOf(n) != len(b) {
		return "", false
	}
	for i := 2 + n; i < len(b); i++ {
		if b[i] != 0 {
			return "", false
		}
	}
	return b[2 : 2+n], true
}

// pads asks whether a text is padded to bytes.
func pads(t *testing.T, s, want string) {
	t.Helper()
	if b, e := Pad(s); b != want || e != api.OK {
		t.Fatalf("Pad(%.60q of %d bytes) = %.60q of %d bytes, %v, not %.60q of %d bytes", s, len(s), b, len(b), e, want, len(want))
	}
}

// unpads asks whether bytes are those of a text.
func unpads(t *testing.T, b, want string) {
	t.Helper()
	if s, e := Unpad(b); s != want || e != api.OK {
		t.Fatalf("Unpad(%.60q of %d bytes) = %.60q of %d bytes, %v, not %.60q of %d bytes", b, len(b), s, len(s), e, want, len(want))
	}
}

// refused asks whether bytes are those of no text.
func refused(t *testing.T, b string) {
	t.Helper()
	if s, e := Unpad(b); s != "" || e != api.ErrForm {
		t.Fatalf("Unpad(%.60q of %d bytes) = %.60q, %v", b, len(b), s, e)
	}
}

// held asks whether what is unpadded is as the model says, and is padded so again.
func held(t *testing.T, b string) {
	t.Helper()
	s, ok := unpadded(b)
	if !ok {
		refused(t, b)
		return
	}
	unpads(t, b, s)
	pads(t, s, b)
}

// The chapter's example.
func TestExample(t *testing.T) {
	b := "\x00\x02\x01\x02" + zeros(28)
	pads(t, "\x01\x02", b)
	unpads(t, b, "\x01\x02")
}

// 7.1: the shortest and the longest text of each class, and each between them.
func TestClass(t *testing.T) {
	for _, r := range rooms() {
		for n := r.from; n <= r.to; n++ {
			if c, e := Class(n); c != r.class || e != api.OK {
				t.Errorf("Class(%d) = %d, %v, not %d", n, c, e, r.class)
			}
		}
	}
}

// 7.1: the edges of each class, one by one.
func TestClassEdges(t *testing.T) {
	for n, want := range map[int]int{0: 32, 1: 32, 29: 32, 30: 32, 31: 64, 32: 64, 62: 64, 63: 128, 64: 128, 126: 128, 127: 256, 254: 256, 255: 512, 256: 512, 510: 512, 511: 1024, 512: 1024, 1021: 1024, 1022: 1024} {
		if c, e := Class(n); c != want || e != api.OK {
			t.Errorf("Class(%d) = %d, %v, not %d", n, c, e, want)
		}
	}
}

// 7.1, R1: lengths below 0 are in no form; such as are far below, and such as wrap round, too.
func TestClassBelow(t *testing.T) {
	for _, n := range []int{-1, -2, -3, -30, -32, -1022, -1024, -1 << 16, -1 << 31, -1<<32 + 5, -1 << 62, math.MinInt32, math.MinInt, math.MinInt + 1, math.MinInt + 2, math.MinInt + 1024} {
		if c, e := Class(n); c != 0 || e != api.ErrForm {
			t.Errorf("Class(%d) = %d, %v", n, c, e)
		}
	}
}

// 7.1, R1: lengths that no class has room for; such as are far above, and such as wrap round when something is added, too.
func TestClassAbove(t *testing.T) {
	for _, n := range []int{1023, 1024, 1025, 1026, 2046, 2047, 2048, 1<<16 - 2, 1<<16 - 1, 1 << 16, 1<<16 + 5, math.MaxInt32 - 1, math.MaxInt32, 1 << 31, 1 << 32, 1<<32 + 5, 1 << 62, 1<<62 - 2, math.MaxInt - 1024, math.MaxInt - 2, math.MaxInt - 1, math.MaxInt} {
		if c, e := Class(n); c != 0 || e != api.ErrLong {
			t.Errorf("Class(%d) = %d, %v", n, c, e)
		}
	}
}

// 7.2: Most can be padded, one byte more cannot.
func TestMost(t *testing.T) {
	if Most() != 1022 {
		t.Fatalf("Most() = %d", Most())
	}
	if c, e := Class(Most()); c != api.MaxBody || e != api.OK {
		t.Errorf("Class(Most()) = %d, %v", c, e)
	}
	if c, e := Class(Most() + 1); c != 0 || e != api.ErrLong {
		t.Errorf("Class(Most() + 1) = %d, %v", c, e)
	}
	s := body(Most())
	pads(t, s, "\x03\xfe"+s)
	if b, e := Pad(s + "x"); b != "" || e != api.ErrLong {
		t.Errorf("Pad of a byte more = %.60q, %v", b, e)
	}
}

// 7.1: texts of each class, their bytes written out.
func TestPadRows(t *testing.T) {
	rows := []struct{ s, b string }{
		{"", zeros(32)},
		{"\x00", "\x00\x01" + zeros(30)},
		{"a", "\x00\x01a" + zeros(29)},
		{zeros(2), "\x00\x02" + zeros(30)},
		{"\x00\x01", "\x00\x02\x00\x01" + zeros(28)},
		{"a\x00b\x00", "\x00\x04a\x00b\x00" + zeros(26)},
		{body(29), "\x00\x1d" + body(29) + "\x00"},
		{body(30), "\x00\x1e" + body(30)},
		{zeros(30), "\x00\x1e" + zeros(30)},
		{body(31), "\x00\x1f" + body(31) + zeros(31)},
		{zeros(31), "\x00\x1f" + zeros(62)},
		{body(62), "\x00\x3e" + body(62)},
		{body(63), "\x00\x3f" + body(63) + zeros(63)},
		{body(126), "\x00\x7e" + body(126)},
		{body(127), "\x00\x7f" + body(127) + zeros(127)},
		{body(128), "\x00\x80" + body(128) + zeros(126)},
		{body(254), "\x00\xfe" + body(254)},
		// The last length of one byte, the first one of two.
		{body(255), "\x00\xff" + body(255) + zeros(255)},
		{body(256), "\x01\x00" + body(256) + zeros(254)},
		{body(257), "\x01\x01" + body(257) + zeros(253)},
		{body(510), "\x01\xfe" + body(510)},
		{body(511), "\x01\xff" + body(511) + zeros(511)},
		{body(512), "\x02\x00" + body(512) + zeros(510)},
		{zeros(512), "\x02\x00" + zeros(1022)},
		{body(1021), "\x03\xfd" + body(1021) + "\x00"},
		{body(1022), "\x03\xfe" + body(1022)},
	}
	for _, x := range rows {
		pads(t, x.s, x.b)
		unpads(t, x.b, x.s)
	}
}

// 7.1, 7.3: texts of each length are padded, and unpadded; what is padded is another one for each of them.
func TestAllLengths(t *testing.T) {
	seen := map[string]string{}
	for n := range 1023 {
		for _, s := range texts(n) {
			b := padded(s)
			pads(t, s, b)
			unpads(t, b, s)
			if other, ok := seen[b]; ok && other != s {
				t.Fatalf("%.60q and %.60q are padded to one", s, other)
			}
			seen[b] = s
		}
	}
}

// 7.1: texts that are too long.
func TestPadLong(t *testing.T) {
	for _, n := range []int{1023, 1024, 1025, 1026, 2046, 2048, 1<<16 - 2, 1<<16 - 1, 1 << 16, 1<<16 + 1, 1<<16 + 5, 1<<16 + 1022, 1 << 17, 1 << 24} {
		for _, s := range []string{body(n), zeros(n)} {
			if b, e := Pad(s); b != "" || e != api.ErrLong {
				t.Errorf("Pad of %d bytes = %.60q, %v", n, b, e)
			}
		}
	}
}

// 7.3: texts of one class are padded to one length, which is the class; and those of others to others.
func TestOneLength(t *testing.T) {
	for n := range 1023 {
		c, e := Class(n)
		if e != api.OK {
			t.Fatalf("Class(%d): %v", n, e)
		}
		for _, s := range texts(n) {
			if b, e := Pad(s); len(b) != c || e != api.OK {
				t.Fatalf("Pad of %d bytes has %d bytes, %v, not %d", n, len(b), e, c)
			}
		}
	}
}

// 7.3: all lengths of a class, and no others, are padded to its length; there is no length beside those of the classes.
func TestFewLengths(t *testing.T) {
	lengths := map[int]int{}
	for n := range 1023 {
		b, _ := Pad(body(n))
		lengths[len(b)]++
	}
	for _, r := range rooms() {
		if lengths[r.class] != r.to-r.from+1 {
			t.Errorf("%d lengths are padded to %d", lengths[r.class], r.class)
		}
	}
	if len(lengths) != len(rooms()) {
		t.Errorf("there are %d lengths", len(lengths))
	}
}

// 7.1: no byte, one byte, and bytes of lengths that are no classes, whatever length they tell.
func TestUnpadNoClass(t *testing.T) {
	for first := range 256 {
		refused(t, string([]byte{byte(first)}))
	}
	for size := range 2100 {
		if size >= 2 && slices.ContainsFunc(rooms(), func(r room) bool { return r.class == size }) {
			continue
		}
		refused(t, zeros(size))
		refused(t, body(size))
		for _, n := range []int{0, 1, size - 3, size - 2, size - 1, size, 30, 62, 1022} {
			if n >= 0 && size >= 2 {
				refused(t, string([]byte{byte(n / 256), byte(n % 256)})+zeros(size-2))
			}
		}
	}
	for _, size := range []int{4096, 1 << 15, 1<<16 - 1, 1 << 16, 1<<16 + 1, 1<<16 + 32, 1 << 17} {
		refused(t, zeros(size))
		refused(t, "\xff\xff"+zeros(size-2))
		refused(t, "\x03\xfe"+zeros(size-2))
	}
}

// 7.1: each length of two bytes ahead of each class: it fits, or it doesn't, or the class is greater than the least one.
func TestUnpadAllHeads(t *testing.T) {
	for _, r := range rooms() {
		rest := zeros(r.class - 2)
		for n := range 1 << 16 {
			b := string([]byte{byte(n / 256), byte(n % 256)}) + rest
			if n >= r.from && n <= r.to {
				unpads(t, b, rest[:n])
			} else {
				refused(t, b)
			}
		}
	}
}

// 7.1, 7.3: a text in a class that is greater than its own, and in one that is less.
func TestUnpadOtherClass(t *testing.T) {
	for _, x := range rooms() {
		for _, n := range []int{x.from, (x.from + x.to) / 2, x.to} {
			head := string([]byte{byte(n / 256), byte(n % 256)})
			for _, s := range []string{body(n), zeros(n)} {
				for _, r := range rooms() {
					b := (head + s + zeros(1024))[:r.class]
					if r.class == x.class {
						unpads(t, b, s)
					} else {
						refused(t, b)
					}
				}
			}
		}
	}
}

// 7.1, 7.3: each byte behind the text that is not 0.
func TestUnpadBehind(t *testing.T) {
	for _, r := range rooms() {
		for _, n := range []int{r.from, r.from + 1, (r.from + r.to) / 2, r.to - 1, r.to} {
			b := padded(body(n))
			unpads(t, b, body(n))
			for i := 2 + n; i < len(b); i++ {
				for _, c := range []string{"\x01", "x", "\x80", "\xff"} {
					refused(t, b[:i]+c+b[i+1:])
				}
			}
		}
	}
}

// 7.1: one byte too few, and one too many, at both ends; and many.
func TestUnpadCut(t *testing.T) {
	for n := range 1023 {
		b := padded(body(n))
		refused(t, b[:len(b)-1])
		refused(t, b+"\x00")
		refused(t, b+"x")
		refused(t, "\x00"+b)
		refused(t, b+b)
	}
	for _, r := range rooms() {
		for _, n := range []int{r.from, r.to} {
			b := padded(body(n))
			for i := range len(b) {
				refused(t, b[:i])
			}
		}
	}
}

// 7.1: a length by one too great or too small beside its text.
func TestUnpadOtherLength(t *testing.T) {
	for n := range 1023 {
		b := padded(body(n))
		for _, m := range []int{n - 1, n + 1, n + 256, n * 256 % (1 << 16)} {
			if m >= 0 && m != n {
				held(t, string([]byte{byte(m / 256), byte(m % 256)})+b[2:])
			}
		}
		// By one too small the text's last byte, which is not 0, stands behind it.
		if n > 0 {
			refused(t, string([]byte{byte((n - 1) / 256), byte((n - 1) % 256)})+b[2:])
		}
	}
}

// 7.3: padded texts by chance, some bytes of which are changed, lost or added: they are of the text that the model tells, or of none.
func TestByChance(t *testing.T) {
	r := rand.New(rand.NewSource(7))
	right := 0
	const rounds = 20000
	for range rounds {
		s := make([]byte, []int{r.Intn(4), r.Intn(32), r.Intn(64), r.Intn(1023)}[r.Intn(4)])
		r.Read(s)
		b := []byte(padded(string(s)))
		for range r.Intn(3) {
			switch at := r.Intn(len(b)); r.Intn(5) {
			case 0:
				b[at] = byte(r.Intn(256))
			case 1:
				b[r.Intn(2)] = byte(r.Intn(4))
			case 2:
				b[at] = 0
			case 3:
				b = slices.Delete(b, at, at+1)
			case 4:
				b = slices.Insert(b, at, 0)
			}
		}
		if _, ok := unpadded(string(b)); ok {
			right++
		}
		held(t, string(b))
	}
	if right < rounds/10 || right > rounds*9/10 {
		t.Errorf("%d were right", right)
	}
}

// apart tells whether two texts share no memory.
func apart(a, b string) bool {
	if a == "" || b == "" {
		return true
	}
	p, q := uintptr(unsafe.Pointer(unsafe.StringData(a))), uintptr(unsafe.Pointer(unsafe.StringData(b)))
	return p+uintptr(len(a)) <= q || q+uintptr(len(b)) <= p
}

// R4: what is handed out shares nothing with what was handed in, nor with what was handed out ahead.
func TestOwnMemory(t *testing.T) {
	for _, r := range rooms() {
		for _, n := range []int{r.from, r.from + 1, r.to} {
			s := strings.Clone(body(n))
			b, _ := Pad(s)
			c, _ := Pad(s)
			u, _ := Unpad(b)
			v, _ := Unpad(b)
			all := []string{s, b, c, u, v}
			for i, x := range all {
				for _, y := range all[:i] {
					if !apart(x, y) {
						t.Errorf("%d bytes: two texts share memory", n)
					}
				}
			}
		}
	}
}

// R5: what is answered hangs on the argument alone, whatever was asked ahead.
func TestAgain(t *testing.T) {
	for range 3 {
		pads(t, "ab", "\x00\x02ab"+zeros(28))
		unpads(t, "\x00\x01c"+zeros(29), "c")
		refused(t, "\x00\x01cd"+zeros(28))
		if b, e := Pad(body(1023)); b != "" || e != api.ErrLong {
			t.Errorf("Pad = %.60q, %v", b, e)
		}
	}
}

func FuzzUnpad(f *testing.F) {
	for _, r := range rooms() {
		for _, n := range []int{r.from, r.to} {
			f.Add(padded(body(n)))
			f.Add(padded(zeros(n))[1:])
		}
	}
	f.Fuzz(func(t *testing.T, b string) {
		held(t, b)
		if len(b) <= 1022 {
			pads(t, b, padded(b))
			unpads(t, padded(b), b)
		} else if p, e := Pad(b); p != "" || e != api.ErrLong {
			t.Errorf("Pad of %d bytes = %.60q, %v", len(b), p, e)
		}
	})
}
