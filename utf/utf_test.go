package utf

import (
	"math/rand"
	"strings"
	"testing"

	"concourse/api"
)

// Bounds of runes, from the chapter's words.
const (
	two   = 128     // the least rune of two bytes
	three = 2048    // of three
	four  = 65536   // of four
	past  = 1114112 // the least one that is none
	lowS  = 55296   // the least one that no right text has
	highS = 57343   // and the greatest
)

// put is the bytes of a number by the chapter's formula, as so many bytes, be they as few as can be or not.
func put(n, k int) string {
	on := func(unit int) byte { return byte(128 + n/unit%64) }
	switch k {
	case 1:
		return string([]byte{byte(n)})
	case 2:
		return string([]byte{byte(192 + n/64), on(1)})
	case 3:
		return string([]byte{byte(224 + n/4096), on(64), on(1)})
	}
	return string([]byte{byte(240 + n/262144), on(4096), on(64), on(1)})
}

// size is how many bytes a rune has.
func size(n int) int {
	switch {
	case n < two:
		return 1
	case n < three:
		return 2
	case n < four:
		return 3
	}
	return 4
}

// runeOf is a rune's bytes.
func runeOf(n int) string {
	return put(n, size(n))
}

// right is a text that is right, and how many runes it has.
type right struct {
	s string
	n int
}

func rights() []right {
	return []right{
		{"", 0},
		{"a", 1},
		{"abc", 3},
		{"\x00", 1},
		{"\x00\x00", 2},
		{"\x7f", 1},
		// The least and the greatest of two, three and four bytes.
		{"\xc2\x80", 1},
		{"\xdf\xbf", 1},
		{"\xe0\xa0\x80", 1},
		{"\xef\xbf\xbf", 1},
		{"\xf0\x90\x80\x80", 1},
		{"\xf4\x8f\xbf\xbf", 1},
		// Beside those that may not be.
		{"\xed\x9f\xbf", 1},
		{"\xee\x80\x80", 1},
		// What a range tells for what is wrong, itself.
		{"\xef\xbf\xbd", 1},
		{"\xef\xbf\xbd\xef\xbf\xbd", 2},
		{"a\xef\xbf\xbdb", 3},
		{"\xef\xbf\xbc\xef\xbf\xbd\xef\xbf\xbe", 3},
		{"\xef\xbb\xbfa", 2},
		{"\xc3\xa4", 1},
		{"a\xcc\x88", 2},
		{"\xe2\x82\xac", 1},
		{"\xf0\x9f\x98\x80", 1},
		{"a\xc3\xa4\xe2\x82\xac\xf0\x9f\x98\x80", 4},
		{"\xf0\x9f\x98\x80\xe2\x82\xac\xc3\xa4a", 4},
		{"\r\n\t", 3},
	}
}

// wrongs are texts of which the first byte is bad.
func wrongs() []string {
	l := []string{
		// Cut off at the end.
		"\xc2", "\xdf", "\xe0", "\xe2", "\xe2\x82", "\xef", "\xef\xbf", "\xf0", "\xf0\x9f", "\xf0\x9f\x98", "\xf4\x8f\xbf",
		// Cut off by another one.
		"\xc2a", "\xc2\xc2\x80", "\xdf\xef\xbf\xbd", "\xe2a", "\xe2\x82a", "\xe2\x82\xc3\xa4", "\xe2\x82\xe2\x82\xac", "\xef\xbf\xef\xbf\xbd",
		"\xf0a", "\xf0\x9fa", "\xf0\x9f\x98a", "\xf0\x9f\x98\xf0\x9f\x98\x80", "\xf0\x9f\x98\xc3\xa4", "\xf0\xef\xbf\xbd",
		// As they go on, but beside the bytes that do so.
		"\xc2\x7f", "\xc2\xc0", "\xe2\x82\x7f", "\xe2\x82\xc0", "\xf0\x9f\x98\x7f", "\xf0\x9f\x98\xc0", "\xe2\x7f\x80", "\xf0\xc0\x80\x80",
		// By more bytes than it needs.
		"\xc0\x80", "\xc1\xbf", "\xe0\x80\x80", "\xe0\x81\xbf", "\xe0\x82\x80", "\xe0\x9f\xbf", "\xf0\x80\x80\x80", "\xf0\x8f\xbf\xbf", "\xf0\x8f\xbf\xbd",
		"\xf8\x80\x80\x80\x80", "\xfc\x80\x80\x80\x80\x80",
		// From 55296 to 57343, by twos too.
		"\xed\xa0\x80", "\xed\xbf\xbf", "\xed\xaf\xbf", "\xed\xb0\x80", "\xed\xa0\xbd\xed\xb8\x80",
		// 1114112 and more.
		"\xf4\x90\x80\x80", "\xf4\xbf\xbf\xbf", "\xf5\x80\x80\x80", "\xf7\xbf\xbf\xbf", "\xf8\x88\x80\x80\x80", "\xfd\xbf\xbf\xbf\xbf\xbf",
	}
	for c := range 256 {
		// Bytes that only go on, or begin nothing.
		if c >= 0x80 && c < 0xc2 || c >= 0xf5 {
			b := string([]byte{byte(c)})
			l = append(l, b, b+"a", b+"\x80\x80\x80", b+"\xef\xbf\xbd")
		}
	}
	return l
}

// begins is how many bytes the rune has with whose bytes a text begins; 0: it begins with none's.
func begins(s string) int {
	if s[0] < 128 {
		return 1
	}
	k, n := 0, 0
	switch c := int(s[0]); {
	case c >= 192 && c < 224:
		k, n = 2, c-192
	case c >= 224 && c < 240:
		k, n = 3, c-224
	case c >= 240 && c < 248:
		k, n = 4, c-240
	}
	if k == 0 || k > len(s) {
		return 0
	}
	for i := 1; i < k; i++ {
		if s[i] < 128 || s[i] >= 192 {
			return 0
		}
		n = n*64 + int(s[i]) - 128
	}
	if n >= past || n >= lowS && n <= highS || size(n) != k {
		return 0
	}
	return k
}

// model tells by the chapter's words the first bad byte, and how many runes stand ahead of it.
func model(s string) (int, int) {
	n := 0
	for i := 0; i < len(s); n++ {
		k := begins(s[i:])
		if k == 0 {
			return i, n
		}
		i += k
	}
	return -1, n
}

// told asks of a text what all three calls tell; n counts where nothing is bad.
func told(t *testing.T, s string, bad, n int) {
	t.Helper()
	if bad >= 0 {
		n = 0
	}
	if b := Bad(s); b != bad {
		t.Fatalf("Bad(%x) = %d, not %d", s, b, bad)
	}
	if v := Valid(s); v != (bad < 0) {
		t.Fatalf("Valid(%x) = %v", s, v)
	}
	if c := Count(s); c != n {
		t.Fatalf("Count(%x) = %d, not %d", s, c, n)
	}
}

// held asks of a text all that holds of any; R1, R5: the same call has the same answer.
func held(t *testing.T, s string) {
	t.Helper()
	bad, n := model(s)
	told(t, s, bad, n)
	told(t, s, bad, n)
	if Name(s) != named(s) {
		t.Fatalf("Name(%q) = %v", s, Name(s))
	}
}

// 3.1.
func TestRight(t *testing.T) {
	for _, x := range rights() {
		told(t, x.s, -1, x.n)
	}
}

// 3.1: the example of the chapter, and bad bytes behind what is right, with anything behind them.
func TestWrong(t *testing.T) {
	told(t, "\x61\xff", 1, 0)
	for _, b := range wrongs() {
		told(t, b, 0, 0)
		for _, x := range rights() {
			told(t, x.s+b, len(x.s), 0)
		}
	}
}

// 3.1: the first of many is told.
func TestFirstWrong(t *testing.T) {
	told(t, "ab\xffcd\xff", 2, 0)
	told(t, "\xef\xbf\xbd\xef\xbf\xef\xbf\xbd", 3, 0)
	told(t, "a\xe2\x82\xac\xe2\x82", 4, 0)
	told(t, "a\x80\x80\x80", 1, 0)
	told(t, "\xff\xef\xbf\xbd", 0, 0)
}

// 3.1: each rune that there is, by its bytes, alone and between others; a count of it is 1.
func TestEachRune(t *testing.T) {
	for n := range past {
		s := runeOf(n)
		if n >= lowS && n <= highS {
			told(t, s, 0, 0)
			told(t, "a"+s+"a", 1, 0)
			continue
		}
		told(t, s, -1, 1)
		told(t, "\xef\xbf\xbd"+s+"a", -1, 3)
	}
}

// 3.1: each rune of two to four bytes, cut off at the end and by another one.
func TestEachCut(t *testing.T) {
	// Of the greater ones some are enough.
	for n := two; n < past; n += 1 + n/three {
		s := runeOf(n)
		for k := 1; k < len(s); k++ {
			told(t, "a"+s[:k], 1, 0)
			told(t, s[:k]+"z", 0, 0)
		}
	}
}

// 3.1: runes by more bytes than they need.
func TestMoreBytes(t *testing.T) {
	for n := range four {
		for k := size(n) + 1; k <= 4; k++ {
			told(t, put(n, k), 0, 0)
			told(t, "a"+put(n, k), 1, 0)
		}
	}
}

// 3.1: what four bytes can tell of 1114112 and more.
func TestPastRunes(t *testing.T) {
	for n := past; n < 8*262144; n += 61 {
		told(t, put(n, 4), 0, 0)
	}
	told(t, put(past-1, 4), -1, 1)
	told(t, put(past, 4), 0, 0)
	told(t, put(8*262144-1, 4), 0, 0)
}

// 3.1: all texts of up to two bytes, and of three and four bytes those that begin a rune and go on by the bytes at the bounds.
func TestAllShort(t *testing.T) {
	ends := []byte{0x00, 'a', 0x7f, 0x80, 0x81, 0x8f, 0x90, 0x9f, 0xa0, 0xbd, 0xbf, 0xc0, 0xc2, 0xed, 0xef, 0xf4, 0xff}
	for a := range 256 {
		held(t, string([]byte{byte(a)}))
		for b := range 256 {
			held(t, string([]byte{byte(a), byte(b)}))
			for _, c := range ends {
				held(t, string([]byte{byte(a), byte(b), c}))
				if a < 0xe0 {
					continue
				}
				for _, d := range ends {
					held(t, string([]byte{byte(a), byte(b), c, d}))
				}
			}
		}
	}
}

// named tells by the chapter's words whether a text is a name.
func named(s string) bool {
	const first = "abcdefghijklmnopqrstuvwxyzABCDEFGHIJKLMNOPQRSTUVWXYZ"
	if len(s) == 0 || len(s) > 16 || strings.IndexByte(first, s[0]) < 0 {
		return false
	}
	for i := range len(s) {
		if strings.IndexByte(first+"0123456789_", s[i]) < 0 {
			return false
		}
	}
	return true
}

// 3.2.
func TestName(t *testing.T) {
	for _, s := range []string{"a", "z", "A", "Z", "Ab_9", "x0", "a_", "A__9", "list", "true", "abcdefghijklmnop", "Z___________9999", strings.Repeat("q", api.MaxName)} {
		if !Name(s) {
			t.Errorf("Name(%q) is false", s)
		}
	}
}

// 3.2.
func TestNoName(t *testing.T) {
	for _, s := range []string{
		"", "_", "0", "9a", "_a", " a", "a ", "a b", "a-b", "a.b", "a\x00", "\x00", "\xff", "a\xff", "a\x80",
		"\xc3\xa4", "a\xc3\xa4", "\xce\xb1", "\xef\xbf\xbd", "a\xef\xbf\xbd",
		// Letters and digits of other scripts, some of which fold to these ones.
		"a\xd9\xa1", "\xe2\x84\xaa", "a\xc5\xbf", "\xef\xbc\xa1", "a\xef\xbc\x91", "\xc1\xa1", "a\xc1\xa1",
		"abcdefghijklmnopq", "abcdefghijklmno\xc3\xa4", "abcdefghijklmno ", "9bcdefghijklmnop",
		strings.Repeat("q", api.MaxName+1), strings.Repeat("q", 1<<20),
	} {
		if Name(s) {
			t.Errorf("Name(%q) is true", s)
		}
	}
}

// 3.2: each byte, at each place of names of each length.
func TestNameEachByte(t *testing.T) {
	for k := 1; k <= api.MaxName+2; k++ {
		for at := range k {
			b := []byte(strings.Repeat("m", k))
			for c := range 256 {
				b[at] = byte(c)
				if s := string(b); Name(s) != named(s) {
					t.Errorf("Name(%q) = %v", s, Name(s))
				}
			}
		}
	}
}

// 3.3.
func TestRightBehindRight(t *testing.T) {
	for _, x := range rights() {
		for _, y := range rights() {
			told(t, x.s+y.s, -1, x.n+y.n)
			if Count(x.s+y.s) != Count(x.s)+Count(y.s) {
				t.Errorf("Count(%x, %x)", x.s, y.s)
			}
		}
	}
}

// some is a text of some pieces, of which most are right.
func some(r *rand.Rand, pieces []string) string {
	var s string
	for range r.Intn(8) {
		s += pieces[r.Intn(len(pieces))]
	}
	return s
}

// 3.3, of texts at random; where one of them is wrong, both answers are the model's.
func TestTextsBehindTexts(t *testing.T) {
	r := rand.New(rand.NewSource(1))
	var good []string
	for _, x := range rights() {
		good = append(good, x.s)
	}
	all := append(wrongs(), good...)
	for range 50000 {
		n := r.Intn(past)
		x, y := some(r, good)+runeOf(r.Intn(lowS)), some(r, good)
		told(t, x+y, -1, Count(x)+Count(y))
		held(t, x+runeOf(n)+y)
		held(t, x+some(r, all)+y)
	}
}

// 3.1, R1: long texts, and what is wrong at their ends.
func TestLong(t *testing.T) {
	const n = 1 << 18
	for _, x := range rights() {
		s := strings.Repeat(x.s, n/8)
		told(t, s, -1, x.n*(n/8))
		told(t, s+"\xe2\x82", len(s), 0)
	}
	told(t, strings.Repeat("\xff", n), 0, 0)
	told(t, strings.Repeat("a", n)+"\x80", n, 0)
}

// R1, R5.
func TestAnyBytes(t *testing.T) {
	r := rand.New(rand.NewSource(2))
	for range 200000 {
		b := make([]byte, r.Intn(20))
		for i := range b {
			switch r.Intn(4) {
			case 0:
				b[i] = byte(r.Intn(256))
			case 1:
				b[i] = 0xc0 | byte(r.Intn(64))
			case 2:
				b[i] = 0x80 | byte(r.Intn(64))
			default:
				b[i] = "aZ09_ "[r.Intn(6)]
			}
		}
		held(t, string(b))
	}
}

func FuzzText(f *testing.F) {
	for _, x := range rights() {
		f.Add(x.s)
	}
	for _, b := range wrongs() {
		f.Add(b)
	}
	f.Fuzz(held)
}
