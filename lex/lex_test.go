package lex

import (
	"math/rand"
	"regexp"
	"slices"
	"strconv"
	"strings"
	"testing"
	"unsafe"

	"concourse/api"
)

// pieces is what may stand at a text's front, by the chapter's words: a word, a number, a sign, or what stands between them.
var pieces = regexp.MustCompile(`^(?:([A-Za-z][A-Za-z0-9_]*)|([0-9]+)|([{}()<>:;,?])|([\x20\x09\x0a\x0d]|//[^\x0a]*))`)

// model tells a text's tokens, or its fault, by the chapter's words.
func model(s string) ([]api.Token, api.Fault) {
	if len(s) > 1024 {
		return nil, api.Fault{Err: api.ErrLong}
	}
	var l []api.Token
	for at := 0; at < len(s); {
		m := pieces.FindStringSubmatch(s[at:])
		switch {
		case m == nil:
			return nil, api.Fault{Err: api.ErrToken, At: at}
		case len(m[1]) > 16:
			return nil, api.Fault{Err: api.ErrName, At: at}
		case len(m[2]) > 1 && m[2][0] == '0':
			return nil, api.Fault{Err: api.ErrForm, At: at}
		case len(m[2]) > 4:
			return nil, api.Fault{Err: api.ErrLong, At: at}
		case m[1] != "":
			l = append(l, api.Token{Kind: 1, Text: m[1], At: at})
		case m[2] != "":
			n, _ := strconv.Atoi(m[2])
			l = append(l, api.Token{Kind: 2, Text: m[2], Num: n, At: at})
		case m[3] != "":
			l = append(l, api.Token{Kind: 3, Text: m[3], At: at})
		}
		at += len(m[0])
	}
	return append(l, api.Token{Kind: 4, At: len(s)}), api.Fault{}
}

// hasTokens asks whether a text has just these tokens, and no fault.
func hasTokens(t *testing.T, s string, want ...api.Token) {
	t.Helper()
	if l, f := Tokens(s); !slices.Equal(l, want) || f != (api.Fault{}) {
		t.Fatalf("Tokens(%.60q of %d bytes) = %v, %v, not %v", s, len(s), l, f, want)
	}
}

// wrong asks whether a text has just this fault, and no tokens.
func wrong(t *testing.T, s string, e api.Errno, at int) {
	t.Helper()
	if l, f := Tokens(s); len(l) != 0 || f != (api.Fault{Err: e, At: at}) {
		t.Fatalf("Tokens(%.60q of %d bytes) = %v, %v, not %v at %d", s, len(s), l, f, e, at)
	}
}

// held asks whether all is as the model says.
func held(t *testing.T, s string) {
	t.Helper()
	want, fault := model(s)
	if l, f := Tokens(s); !slices.Equal(l, want) || f != fault {
		t.Fatalf("Tokens(%.200q of %d bytes) = %v, %v, not %v, %v", s, len(s), l, f, want, fault)
	}
}

// The tokens of each kind.
func word(s string, at int) api.Token { return api.Token{Kind: api.TkWord, Text: s, At: at} }
func sign(s string, at int) api.Token { return api.Token{Kind: api.TkSign, Text: s, At: at} }
func end(at int) api.Token            { return api.Token{Kind: api.TkEnd, At: at} }

func number(n, at int) api.Token {
	return api.Token{Kind: api.TkNum, Text: strconv.Itoa(n), Num: n, At: at}
}

// The bytes of each sort, written out from the chapter's words.
const (
	letters  = "abcdefghijklmnopqrstuvwxyzABCDEFGHIJKLMNOPQRSTUVWXYZ"
	figures  = "0123456789"
	allSigns = "{}()<>:;,?"
	spaces   = "\x20\x09\x0a\x0d"
)

// others are the bytes with which nothing begins; / begins something where another one is behind it.
func others() []string {
	var l []string
	for c := range 256 {
		b := string([]byte{byte(c)})
		if !strings.Contains(letters+figures+allSigns+spaces, b) {
			l = append(l, b)
		}
	}
	return l
}

// schema is a text with all kinds of tokens, and all that stands between them.
const schema = "struct P { // a place\n\t1 x: list<int?>;\r\n\t2 y_2: map<text,Q>; // its end }\n}\nservice S{oneway 9999 at(P):P;0 A(B):C;}//end"

// The chapter's example.
func TestExample(t *testing.T) {
	hasTokens(t, "a:12", word("a", 0), sign(":", 1), number(12, 2), end(4))
}

// 8.1: a schema's tokens, written out.
func TestSchema(t *testing.T) {
	hasTokens(t, "union U {\n 1 a_b:list<int?>; // x\n}\t",
		word("union", 0), word("U", 6), sign("{", 8), number(1, 11), word("a_b", 13), sign(":", 16), word("list", 17), sign("<", 21),
		word("int", 22), sign("?", 25), sign(">", 26), sign(";", 27), sign("}", 34), end(36))
	held(t, schema)
}

// 8.1: the empty text, and texts of blanks and notes alone, have the end alone.
func TestNoTokens(t *testing.T) {
	l := []string{"", " ", "\t", "\n", "\r", " \t\n\r\r\n\t ", strings.Repeat(" ", 1024), strings.Repeat("\n", 1023), "//", "///", "////", "// a note", "//\n", "//\n//", "//a\n//b\n", " // a \n\t//b", "\n\n//\r", "//" + strings.Repeat("_", 1022)}
	for _, s := range l {
		hasTokens(t, s, end(len(s)))
	}
}

// 8.1: words of one letter, and of a letter with each byte that may stand behind it.
func TestWords(t *testing.T) {
	for _, c := range letters {
		hasTokens(t, string(c), word(string(c), 0), end(1))
		for _, d := range letters + figures + "_" {
			s := string(c) + string(d)
			hasTokens(t, s, word(s, 0), end(2))
			hasTokens(t, " "+s+";", word(s, 1), sign(";", 3), end(4))
		}
	}
	for _, s := range []string{"struct", "a_", "a__", "Z9", "a0_0a", "x01", "x99999", "ABCDEFGHIJKLMNOP", "z_23456789012345"} {
		hasTokens(t, s, word(s, 0), end(len(s)))
	}
}

// 8.1: words of each length up to the greatest, and of more.
func TestWordLengths(t *testing.T) {
	for _, tail := range []string{"b", "Z", "7", "_"} {
		for n := 1; n <= 1024; n++ {
			s := "a" + strings.Repeat(tail, n-1)
			if n > 16 {
				wrong(t, s, api.ErrName, 0)
				continue
			}
			hasTokens(t, s, word(s, 0), end(n))
			hasTokens(t, "\n"+s+"//", word(s, 1), end(n+3))
			hasTokens(t, s+" "+s, word(s, 0), word(s, n+1), end(2*n+1))
		}
	}
	long := "abcdefghijklmnopq"
	wrong(t, "x "+long, api.ErrName, 2)
	wrong(t, "12"+long, api.ErrName, 2)
	wrong(t, "{"+long+"}", api.ErrName, 1)
	wrong(t, "//\n"+long, api.ErrName, 3)
	hasTokens(t, "//"+long, end(19))
}

// 8.1: all numbers that may be.
func TestNumbers(t *testing.T) {
	for n := range 10000 {
		s := strconv.Itoa(n)
		hasTokens(t, s, number(n, 0), end(len(s)))
		hasTokens(t, " "+s+":", number(n, 1), sign(":", len(s)+1), end(len(s)+2))
	}
}

// 8.1: numbers of more than four digits, at their first one.
func TestNumbersLong(t *testing.T) {
	for n := 10000; n < 110000; n++ {
		wrong(t, strconv.Itoa(n), api.ErrLong, 0)
	}
	for n := 5; n <= 1024; n++ {
		for _, c := range []string{"1", "9"} {
			wrong(t, strings.Repeat(c, n), api.ErrLong, 0)
		}
	}
	for _, s := range []string{"18446744073709551616", "18446744073709551617", "9223372036854775808", "4294967297", "65537"} {
		wrong(t, s, api.ErrLong, 0)
		wrong(t, "a:"+s+";", api.ErrLong, 2)
	}
	wrong(t, "a 12345", api.ErrLong, 2)
	wrong(t, "1234 12345", api.ErrLong, 5)
	wrong(t, "12345a", api.ErrLong, 0)
}

// 8.1: a 0 alone is a number; one ahead of others is ErrForm, be they too many or not.
func TestZeros(t *testing.T) {
	hasTokens(t, "0", number(0, 0), end(1))
	hasTokens(t, "0 0", number(0, 0), number(0, 2), end(3))
	hasTokens(t, "0:0a", number(0, 0), sign(":", 1), number(0, 2), word("a", 3), end(4))
	hasTokens(t, "10 100 1000 1001", number(10, 0), number(100, 3), number(1000, 7), number(1001, 12), end(16))
	for n := range 10000 {
		wrong(t, "0"+strconv.Itoa(n), api.ErrForm, 0)
		wrong(t, "00"+strconv.Itoa(n)+" ", api.ErrForm, 0)
	}
	for n := 2; n <= 1024; n++ {
		wrong(t, strings.Repeat("0", n), api.ErrForm, 0)
		wrong(t, "0"+strings.Repeat("7", n-1), api.ErrForm, 0)
	}
	wrong(t, "x 01", api.ErrForm, 2)
	wrong(t, "x\n0001;", api.ErrForm, 2)
	wrong(t, ":00000", api.ErrForm, 1)
}

// 8.1: each sign, alone, and with each other one right behind it.
func TestSigns(t *testing.T) {
	for _, a := range allSigns {
		hasTokens(t, string(a), sign(string(a), 0), end(1))
		for _, b := range allSigns {
			hasTokens(t, string(a)+string(b), sign(string(a), 0), sign(string(b), 1), end(2))
		}
	}
}

// 8.1: each blank, ahead of tokens, between them and behind them; one between two parts of a word or a number makes two of it.
func TestBlanks(t *testing.T) {
	for _, c := range spaces {
		b := string(c)
		hasTokens(t, b+"a"+b, word("a", 1), end(3))
		hasTokens(t, "a"+b+"b", word("a", 0), word("b", 2), end(3))
		hasTokens(t, "1"+b+b+"2", number(1, 0), number(2, 3), end(4))
		hasTokens(t, "0"+b+"0", number(0, 0), number(0, 2), end(3))
		hasTokens(t, "<"+b+">", sign("<", 0), sign(">", 2), end(3))
	}
	// Others that look like blanks are none.
	for _, s := range []string{"\x00", "\x0b", "\x0c", "\x1f", "\x85", "\xa0", "\u0085", "\u00a0", "\u2028", "\u3000", "\ufeff"} {
		wrong(t, s, api.ErrToken, 0)
		wrong(t, "a "+s+" b", api.ErrToken, 2)
	}
}

// 8.1: notes up to a line's end and up to the text's, with any bytes in them, right behind each kind of token.
func TestNotes(t *testing.T) {
	hasTokens(t, "//a\nb", word("b", 4), end(5))
	hasTokens(t, "// // \n b // c", word("b", 8), end(14))
	hasTokens(t, "a//", word("a", 0), end(3))
	hasTokens(t, "a//b", word("a", 0), end(4))
	hasTokens(t, "12//3\n4", number(12, 0), number(4, 6), end(7))
	hasTokens(t, "0//0", number(0, 0), end(4))
	hasTokens(t, ";///;\n;", sign(";", 0), sign(";", 6), end(7))
	hasTokens(t, "a//\n//\nb", word("a", 0), word("b", 7), end(8))
	hasTokens(t, "abcdefghijklmnop//q", word("abcdefghijklmnop", 0), end(19))
	// A line ends with byte 10 alone.
	hasTokens(t, "//\rb", end(4))
	hasTokens(t, "//a\r\nb", word("b", 5), end(6))
	hasTokens(t, "//\u2028b\x0bc\x0cd", end(10))
	for c := range 256 {
		b := string([]byte{byte(c)})
		if c != '\n' {
			hasTokens(t, "a//"+b+"b", word("a", 0), end(5))
			hasTokens(t, "//"+b+"\nb", word("b", 4), end(5))
		}
	}
	hasTokens(t, "// 01 12345 _ / abcdefghijklmnopq \x00\xff\u00e9\n1", number(1, 39), end(40))
}

// 8.1: a / that no other one is beside, alone, at the text's end and in its middle.
func TestSlash(t *testing.T) {
	for s, at := range map[string]int{"/": 0, "a/": 1, "a /": 2, "a/b": 1, "a / b": 2, "/ /": 0, "/\n/": 0, "/*a*/": 0, "/_/": 0, "1/2": 1, "0/": 1, "{/}": 1, "//\n/": 3, "//\n/ //": 3, "a//b\nc/": 6, "/a//": 0, "/\n//": 0} {
		wrong(t, s, api.ErrToken, at)
	}
}

// 8.1: each byte with which nothing begins, alone, behind each kind of token, and behind what stands between tokens.
func TestNothingBegins(t *testing.T) {
	if n := len(others()); n != 256-52-10-10-4 {
		t.Fatalf("%d others", n)
	}
	for _, b := range others() {
		for _, head := range []string{"", " ", "\n", "12 ", "12", "0", "<", "a ", "//x\n", schema + "\n"} {
			wrong(t, head+b, api.ErrToken, len(head))
			wrong(t, head+b+" a", api.ErrToken, len(head))
			wrong(t, head+b+"\n"+b, api.ErrToken, len(head))
		}
		if b != "_" {
			wrong(t, "a"+b, api.ErrToken, 1)
			wrong(t, "abcdefghijklmnop"+b+"q", api.ErrToken, 16)
		}
	}
	wrong(t, "_", api.ErrToken, 0)
	wrong(t, "_a", api.ErrToken, 0)
	wrong(t, "a _b", api.ErrToken, 2)
	wrong(t, "1_", api.ErrToken, 1)
	for _, s := range []string{"\u00e9", "\u00aa", "\u0660", "\u0430", "\uff11", "\U0001d41a", "\ufffd"} {
		wrong(t, s, api.ErrToken, 0)
		wrong(t, "a"+s, api.ErrToken, 1)
		wrong(t, "1"+s, api.ErrToken, 1)
	}
}

// 8.1: two tokens with nothing between, of each two kinds; where one goes on, it is the longest one.
func TestNothingBetween(t *testing.T) {
	hasTokens(t, "12a", number(12, 0), word("a", 2), end(3))
	hasTokens(t, "a12", word("a12", 0), end(3))
	hasTokens(t, "0a", number(0, 0), word("a", 1), end(2))
	hasTokens(t, "1234abcdefghijklmnop", number(1234, 0), word("abcdefghijklmnop", 4), end(20))
	hasTokens(t, "a<", word("a", 0), sign("<", 1), end(2))
	hasTokens(t, "<a", sign("<", 0), word("a", 1), end(2))
	hasTokens(t, "1<", number(1, 0), sign("<", 1), end(2))
	hasTokens(t, "<1", sign("<", 0), number(1, 1), end(2))
	hasTokens(t, "ab", word("ab", 0), end(2))
	hasTokens(t, "12", number(12, 0), end(2))
	hasTokens(t, "0x10", number(0, 0), word("x10", 1), end(4))
	hasTokens(t, "1e5", number(1, 0), word("e5", 1), end(3))
}

// 8.1, R2: of several wrong things the first one is told, whichever they are.
func TestFirst(t *testing.T) {
	faults := []struct {
		s string
		e api.Errno
	}{
		{"_", api.ErrToken}, {"/", api.ErrToken}, {"\x00", api.ErrToken}, {"\xff", api.ErrToken},
		{"abcdefghijklmnopq", api.ErrName}, {"01", api.ErrForm}, {"000000", api.ErrForm}, {"10000", api.ErrLong},
	}
	for _, a := range faults {
		for _, b := range faults {
			wrong(t, a.s+" "+b.s, a.e, 0)
			wrong(t, "x: 7 "+a.s+"\n"+b.s+" y", a.e, 5)
			wrong(t, "//"+a.s+"\n"+b.s, b.e, len(a.s)+3)
		}
	}
}

// atLeast is a text of n bytes that begins with some text, and goes on with others, over and over.
func atLeast(n int, head, more string) string {
	return (head + strings.Repeat(more, n))[:n]
}

// 8.1: a text of as many bytes as may be, and of more; that it is too long is told ahead of all else.
func TestLengths(t *testing.T) {
	heads := []string{"", "a", "1", "{", " ", "//", "_", "/", "\x00", "01", "12345", "abcdefghijklmnopq", "\xff"}
	for _, head := range heads {
		for _, more := range []string{" ", ";", "a ", "12 ", "// ", "//\n", "_", "0", "a", "\x80"} {
			for n := 1020; n <= 1024; n++ {
				held(t, atLeast(n, head, more))
			}
			for _, n := range []int{1025, 1026, 1027, 2048, 1<<16 - 1, 1 << 16, 1<<16 + 1, 1<<16 + 1024} {
				wrong(t, atLeast(n, head, more), api.ErrLong, 0)
			}
		}
	}
	s := atLeast(1024, "", ";")
	l, f := Tokens(s)
	if len(l) != 1025 || f != (api.Fault{}) || l[1024] != end(1024) || l[1023] != sign(";", 1023) {
		t.Fatalf("%d tokens, %v", len(l), f)
	}
	hasTokens(t, atLeast(1023, "", " ")+"a", word("a", 1023), end(1024))
	hasTokens(t, "a"+atLeast(1023, "", "\n"), word("a", 0), end(1024))
	wrong(t, atLeast(1024, "", " ")+"a", api.ErrLong, 0)
	wrong(t, "_"+atLeast(1024, "", " "), api.ErrLong, 0)
	wrong(t, atLeast(1024, "", " ")+"_", api.ErrLong, 0)
	wrong(t, atLeast(1023, "", " ")+"_", api.ErrToken, 1023)
	hasTokens(t, "//"+atLeast(1022, "", "a"), end(1024))
	wrong(t, "//"+atLeast(1023, "", "a"), api.ErrLong, 0)
}

// 8.1: each byte, each two of them, and each two around a / or behind a letter or a 0.
func TestAllShort(t *testing.T) {
	for a := range 256 {
		held(t, string([]byte{byte(a)}))
		for b := range 256 {
			held(t, string([]byte{byte(a), byte(b)}))
			held(t, string([]byte{'a', byte(a), byte(b)}))
			held(t, string([]byte{byte(a), '/', byte(b)}))
			held(t, string([]byte{'0', byte(a), byte(b)}))
		}
	}
}

// 8.1: all texts of up to five bytes of a few.
func TestAllOfFew(t *testing.T) {
	const few = "aZ_019 \n/:\x00\xc3"
	var all func(s string, n int)
	all = func(s string, n int) {
		held(t, s)
		if n > 0 {
			for i := range len(few) {
				all(s+few[i:i+1], n-1)
			}
		}
	}
	all("", 5)
}

// byChance is a text of pieces by chance, most of them right ones.
func byChance(r *rand.Rand, n int) string {
	right := []string{" ", "\n", "\t", "\r", "//x\n", "// {1}\n", "struct", "P", "a_1", "abcdefghijklmnop", "0 ", "7", " 12", " 9999 ", "{", "}", "(", ")", "<", ">", ":", ";", ",", "?"}
	bad := []string{"_", "/", "\x00", "\xe2\x82\xac", "01", "12345", "abcdefghijklmnopq"}
	var b strings.Builder
	for range r.Intn(n + 1) {
		if r.Intn(200) == 0 {
			b.WriteString(bad[r.Intn(len(bad))])
		} else {
			b.WriteString(right[r.Intn(len(right))])
		}
	}
	return b.String()
}

// 8.1: texts by chance.
func TestByChance(t *testing.T) {
	r := rand.New(rand.NewSource(8))
	right := 0
	for range 20000 {
		s := byChance(r, []int{5, 20, 100, 400}[r.Intn(4)])
		held(t, s)
		if _, f := Tokens(s); f.Err == api.OK {
			right++
		}
	}
	if right < 2000 || right > 18000 {
		t.Errorf("%d of the texts were right", right)
	}
}

// 8.2: tokens' texts, a blank between each two, whatever tokens and texts they are.
func TestJoin(t *testing.T) {
	texts := func(l ...string) []api.Token {
		var k []api.Token
		for _, s := range l {
			k = append(k, api.Token{Text: s})
		}
		return k
	}
	rows := []struct {
		l []api.Token
		s string
	}{
		{nil, ""},
		{[]api.Token{}, ""},
		{texts(""), ""},
		{texts("a"), "a"},
		{texts("a", "b"), "a b"},
		{texts("", ""), " "},
		{texts("", "a", "", "", "b", ""), " a   b "},
		{texts(" ", "  "), "    "},
		{texts("a b", "//", "\n", "\x00\xff"), "a b // \n \x00\xff"},
		{[]api.Token{word("a", 0), sign(":", 1), number(12, 2)}, "a : 12"},
		{[]api.Token{word("a", 0), sign(":", 1), number(12, 2), end(4)}, "a : 12 "},
		{[]api.Token{end(0)}, ""},
		{[]api.Token{end(7), end(3)}, " "},
		// What a token is beside its text doesn't count.
		{[]api.Token{{Kind: -1, Text: "x", Num: 5, At: -9}, {Kind: api.TkEnd, Text: "y"}, {Kind: api.TkNum, Text: "z", Num: 3}, {Kind: api.TkNum, Num: 3}}, "x y z "},
	}
	for _, x := range rows {
		if s := Join(x.l); s != x.s {
			t.Errorf("Join(%v) = %q, not %q", x.l, s, x.s)
		}
	}
	for n := range 2000 {
		if s := Join(slices.Repeat(texts("a"), n)); s != strings.TrimSuffix(strings.Repeat("a ", n), " ") {
			t.Fatalf("Join of %d: %.60q", n, s)
		}
	}
}

// joined asks whether a text's tokens, joined, have the same ones, but for places, or are too long.
func joined(t *testing.T, s string) {
	t.Helper()
	l, f := Tokens(s)
	if f.Err != api.OK {
		return
	}
	var want []api.Token
	at := 0
	for _, k := range l {
		k.At = at
		want = append(want, k)
		at += len(k.Text) + 1
	}
	j := Join(l)
	if len(j) != at-1 {
		t.Fatalf("Join of the tokens of %.60q has %d bytes, not %d", s, len(j), at-1)
	}
	if len(j) > 1024 {
		wrong(t, j, api.ErrLong, 0)
		return
	}
	hasTokens(t, j, want...)
	if again, _ := Tokens(j); Join(again) != j {
		t.Fatalf("%.60q is joined to another text", j)
	}
}

// 8.3: tokens that are joined have the same tokens, but for places.
func TestJoined(t *testing.T) {
	for _, s := range []string{"", " ", "//", "a", "0", "{", "a:12", "12a", "0a", "1//\n2", "a//b", "1\n2", "a\tb", schema, strings.Repeat(schema+"\n", 6)} {
		joined(t, s)
	}
	r := rand.New(rand.NewSource(83))
	for range 20000 {
		joined(t, byChance(r, []int{5, 20, 100, 250}[r.Intn(4)]))
	}
}

// 8.3: joined tokens just as long as may be, and a byte longer.
func TestJoinedLengths(t *testing.T) {
	for n := 1; n <= 1024; n++ {
		joined(t, strings.Repeat("?", n))
	}
	for _, x := range []struct {
		s    string
		n    int
		long bool
	}{
		{strings.Repeat(";", 511), 1022, false},
		{"a" + strings.Repeat(";", 511), 1024, false},
		{"ab" + strings.Repeat(";", 510), 1023, false},
		{"ab" + strings.Repeat(";", 511), 1025, true},
		{strings.Repeat(";", 513), 1026, true},
		{strings.Repeat("1;", 256), 1024, false},
		{strings.Repeat("0;", 512), 2048, true},
	} {
		l, f := Tokens(x.s)
		j := Join(l)
		_, g := Tokens(j)
		if f.Err != api.OK || len(j) != x.n || (g.Err == api.ErrLong) != x.long || (g.Err == api.OK) == x.long {
			t.Errorf("%.20q: %v; joined %d bytes, %v", x.s, f, len(j), g)
		}
		joined(t, x.s)
	}
}

// apart tells whether two texts share no memory.
func apart(a, b string) bool {
	if a == "" || b == "" {
		return true
	}
	p, q := uintptr(unsafe.Pointer(unsafe.StringData(a))), uintptr(unsafe.Pointer(unsafe.StringData(b)))
	return p+uintptr(len(a)) <= q || q+uintptr(len(b)) <= p
}

// R4: what is handed out shares nothing with what was handed in, nor with what is handed out beside it.
func TestOwnMemory(t *testing.T) {
	for _, text := range []string{"a", "a:12", "abcdefghijklmnop", schema} {
		s := strings.Clone(text)
		texts := []string{s}
		l, _ := Tokens(s)
		for _, k := range l {
			texts = append(texts, k.Text)
		}
		texts = append(texts, Join(l), Join(l[:1]), Join(l[len(l)-1:]))
		for i, a := range texts {
			for _, b := range texts[:i] {
				if !apart(a, b) {
					t.Errorf("%.20q and %.20q share memory", a, b)
				}
			}
		}
	}
}

// R4: what is handed in is not changed, what lies behind a list's end too.
func TestNotChanged(t *testing.T) {
	l, _ := Tokens(schema)
	was := slices.Clone(l)
	for n := range l {
		Join(l[:n])
		if !slices.Equal(l, was) {
			t.Fatalf("Join of %d of the tokens has changed them to %v", n, l)
		}
	}
}

// R5: what was done with an answer changes no other one.
func TestApart(t *testing.T) {
	a, _ := Tokens(schema)
	b, _ := Tokens(schema)
	want := slices.Clone(b)
	clear(append(a[:1], b[:1]...))
	clear(a)
	wrong(t, schema+"\n_", api.ErrToken, len(schema)+1)
	if c, _ := Tokens(schema); !slices.Equal(b, want) || !slices.Equal(c, want) {
		t.Error("the tokens are others by now")
	}
}

func FuzzTokens(f *testing.F) {
	for _, s := range []string{"", "a:12", schema, "// x", "a _", "01", "12345", "abcdefghijklmnopq", "a / b", "\xc3\xa9", strings.Repeat(";", 1025)} {
		f.Add(s)
	}
	f.Fuzz(func(t *testing.T, s string) {
		held(t, s)
		joined(t, s)
	})
}
