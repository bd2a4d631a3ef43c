package feed

import (
	"fmt"
	"math/rand"
	"slices"
	"strings"
	"testing"
	"unsafe"

	"concourse/api"
)

// body is a body of n bytes, none of which is as the one ahead of it.
func body(n int) string {
	b := make([]byte, n)
	for i := range b {
		b[i] = byte(i*7 + 1)
	}
	return string(b)
}

// put is a frame's bytes, by the words of the chapter on frames.
func put(f api.Frame) string {
	n := len(f.Body)
	return string([]byte{byte(f.Kind), byte(f.Flags), byte(n / 256), byte(n % 256)}) + f.Body
}

// bytesOf is frames one behind the other.
func bytesOf(l []api.Frame) string {
	var s strings.Builder
	for _, f := range l {
		s.WriteString(put(f))
	}
	return s.String()
}

// frames are right ones: with bodies and without, at the edges of lengths, with bodies that look like heads, right and wrong ones.
func frames() []api.Frame {
	return []api.Frame{
		{Kind: 5},
		{Kind: 2, Flags: 1, Body: "abc"},
		{Kind: 1, Flags: 255},
		{Kind: 9, Body: "\x00"},
		{Kind: 3, Flags: 4, Body: "\x05\x00\x00\x00"},
		{Kind: 6, Body: "\x00\xff\xff\xff\x0a"},
		{Kind: 5, Flags: 128},
		{Kind: 8, Body: body(255)},
		{Kind: 4, Body: body(256)},
		{Kind: 7, Flags: 9, Body: body(1023)},
		{Kind: 2, Flags: 5, Body: body(1024)},
		{Kind: 9, Flags: 255, Body: "\xff"},
	}
}

// few are such that all cuts of their bytes can be tried.
func few() []api.Frame {
	return frames()[:7]
}

// wrong is a head that breaks a feed.
type wrong struct {
	b   string
	bad api.Errno
}

func wrongHeads() []wrong {
	return []wrong{
		{"\x00\x00\x00\x00", api.ErrKind},
		{"\x0a\x00\x00\x00", api.ErrKind},
		{"\xff\x00\x00\x00", api.ErrKind},
		{"\x85\x00\x00\x00", api.ErrKind},
		{"\x00\x05\x00\x00", api.ErrKind},
		{"\x01\x00\x04\x01", api.ErrLong},
		{"\x09\xff\x04\x01", api.ErrLong},
		{"\x05\x00\x05\x00", api.ErrLong},
		{"\x05\x00\x80\x00", api.ErrLong},
		{"\x05\x00\xff\xff", api.ErrLong},
		// Both are wrong: the kind is told.
		{"\x00\x00\x04\x01", api.ErrKind},
		{"\x0a\xff\xff\xff", api.ErrKind},
	}
}

// state is what a feed is by the chapter's words, when all of its bytes have come.
type state struct {
	told  []api.Frame
	waits int
	bad   api.Errno
}

// model tells a feed's state by the bytes that came, whichever pieces they came in.
func model(b string) state {
	var s state
	for {
		if len(b) < 4 {
			s.waits = len(b)
			return s
		}
		n := 256*int(b[2]) + int(b[3])
		switch {
		case b[0] < 1 || b[0] > 9:
			s.bad = api.ErrKind
			return s
		case n > 1024:
			s.bad = api.ErrLong
			return s
		case len(b) < 4+n:
			s.waits = len(b)
			return s
		}
		s.told = append(s.told, api.Frame{Kind: int(b[0]), Flags: int(b[1]), Body: b[4 : 4+n]})
		b = b[4+n:]
	}
}

// told is frames as a line.
func told(l []api.Frame) string {
	var s strings.Builder
	for _, f := range l {
		fmt.Fprintf(&s, "{%d %d %.20q (%d bytes)}", f.Kind, f.Flags, f.Body, len(f.Body))
	}
	return s.String()
}

// is asks what a feed tells of itself.
func is(t *testing.T, f *Feed, waits int, bad api.Errno) {
	t.Helper()
	if f.Waits() != waits || f.Broken() != bad {
		t.Fatalf("%d bytes wait, broken: %v; not %d, %v", f.Waits(), f.Broken(), waits, bad)
	}
}

// tells asks whether a feed tells just these frames at a piece.
func tells(t *testing.T, f *Feed, piece string, want ...api.Frame) {
	t.Helper()
	if l := f.Push(piece); !slices.Equal(l, want) {
		t.Fatalf("Push(%.60q) = %s, not %s", piece, told(l), told(want))
	}
}

// held hands pieces to a new feed, and asks behind each of them whether all is as the model says.
func held(t *testing.T, pieces ...string) {
	t.Helper()
	f := New()
	is(t, f, 0, api.OK)
	var came string
	known := 0
	for i, p := range pieces {
		came += p
		want := model(came)
		if l := f.Push(p); !slices.Equal(l, want.told[known:]) || f.Waits() != want.waits || f.Broken() != want.bad {
			t.Fatalf("piece %d, %.60q: %s, %d, %v; not %s, %d, %v", i, p, told(l), f.Waits(), f.Broken(), told(want.told[known:]), want.waits, want.bad)
		}
		if f.Waits() >= 4+1024 {
			t.Fatalf("%d bytes wait", f.Waits())
		}
		known = len(want.told)
	}
}

// even is bytes in pieces of n; the last one may be shorter.
func even(b string, n int) []string {
	var l []string
	for len(b) > n {
		l = append(l, b[:n])
		b = b[n:]
	}
	return append(l, b)
}

// between is pieces with pieces of none around each of them.
func between(l []string) []string {
	m := []string{""}
	for _, p := range l {
		m = append(m, p, "", "")
	}
	return m
}

// byChance is bytes in pieces of up to most bytes, some of none.
func byChance(r *rand.Rand, b string, most int) []string {
	var l []string
	for b != "" {
		n := min(r.Intn(most+1), len(b))
		l = append(l, b[:n])
		b = b[n:]
	}
	return l
}

// The chapter's example.
func TestExample(t *testing.T) {
	f := New()
	tells(t, f, "\x05\x00")
	is(t, f, 2, api.OK)
	tells(t, f, "\x00\x00\x05", api.Frame{Kind: api.KindPing})
	is(t, f, 1, api.OK)
}

// 6.1: several frames in one piece, each told once, in their order.
func TestOnePiece(t *testing.T) {
	f := New()
	tells(t, f, bytesOf(frames()), frames()...)
	is(t, f, 0, api.OK)
	tells(t, f, "")
	tells(t, f, bytesOf(few())+"\x02\x00\x00\x02z", few()...)
	is(t, f, 5, api.OK)
	tells(t, f, "")
	is(t, f, 5, api.OK)
	tells(t, f, "y", api.Frame{Kind: 2, Body: "zy"})
	is(t, f, 0, api.OK)
}

// 6.1: each kind with each of the flags.
func TestAllKinds(t *testing.T) {
	f := New()
	for kind := 1; kind <= 9; kind++ {
		for flags := range 256 {
			x := api.Frame{Kind: kind, Flags: flags, Body: body(flags % 3)}
			b := put(x)
			tells(t, f, b[:3])
			is(t, f, 3, api.OK)
			tells(t, f, b[3:], x)
			is(t, f, 0, api.OK)
		}
	}
}

// 6.1: a piece that ends just where a frame ends tells it at once, without waiting for more; one that ends a byte ahead does not.
func TestEnds(t *testing.T) {
	f := New()
	for _, x := range frames() {
		b := put(x)
		tells(t, f, b, x)
		is(t, f, 0, api.OK)
		tells(t, f, b[:len(b)-1])
		is(t, f, len(b)-1, api.OK)
		tells(t, f, b[len(b)-1:], x)
		is(t, f, 0, api.OK)
	}
}

// 6.1, 6.2: a head that is cut off behind each of its bytes, behind nothing and behind other frames.
func TestCutHeads(t *testing.T) {
	for _, x := range frames() {
		b := put(x)
		for k := range 4 {
			for _, l := range [][]api.Frame{nil, {{Kind: 5}}, few()} {
				f := New()
				tells(t, f, bytesOf(l)+b[:k], l...)
				is(t, f, k, api.OK)
				tells(t, f, b[k:]+b[:k], x)
				is(t, f, k, api.OK)
			}
		}
	}
}

// 6.1, 6.2: how many bytes wait at each byte of the longest frame, and at most.
func TestWaits(t *testing.T) {
	x := api.Frame{Kind: 4, Flags: 3, Body: body(1024)}
	b := put(x)
	f := New()
	for range 3 {
		for i := range len(b) - 1 {
			tells(t, f, b[i:i+1])
			is(t, f, i+1, api.OK)
		}
		is(t, f, 1027, api.OK)
		tells(t, f, b[1027:], x)
		is(t, f, 0, api.OK)
	}
	for k := range b {
		f := New()
		tells(t, f, b+b+b[:k], x, x)
		is(t, f, k, api.OK)
	}
}

// 6.2: all cuts in two, behind which each byte counts.
func TestTwoPieces(t *testing.T) {
	for _, tail := range []string{"", "\x05", "\x05\x00\x00", "\x05\x00\x00\x02x", "\x00\x00\x00\x00\x05\x00\x00\x00", "\x05\x00\x04\x01\x05\x00\x00\x00"} {
		b := bytesOf(frames()) + tail
		for i := range len(b) + 1 {
			held(t, b[:i], b[i:])
		}
	}
}

// 6.2: all cuts in three.
func TestThreePieces(t *testing.T) {
	for _, tail := range []string{"", "\x02\x00\x01\x00a", "\x0a\x00\x00\x00\x05\x00\x00\x00", "\x02\x00\x04\x01\x05\x00\x00\x00"} {
		b := bytesOf(few()) + tail
		for i := range len(b) + 1 {
			for j := i; j <= len(b); j++ {
				held(t, b[:i], b[i:j], b[j:])
			}
		}
	}
}

// 6.2: pieces of one byte, of other lengths, and of none.
func TestEvenPieces(t *testing.T) {
	ends := []string{"", "\x06\xff\x03", "\x06\xff\x03\xffabc"}
	for _, x := range wrongHeads() {
		ends = append(ends, x.b, x.b+put(api.Frame{Kind: 5})+bytesOf(few()))
	}
	for _, end := range ends {
		b := bytesOf(frames()) + end
		for _, n := range []int{1, 2, 3, 4, 5, 7, 8, 64, 1024, 1027, 1028, 1029, len(b)} {
			held(t, even(b, n)...)
			held(t, between(even(b, n))...)
		}
	}
}

// 6.1: pieces of none tell nothing, and change nothing.
func TestNoBytes(t *testing.T) {
	held(t)
	held(t, "")
	held(t, "", "", "")
	held(t, "", "\x05", "", "\x00", "", "\x00", "", "\x00", "", "")
	held(t, "", "\x0a\x00\x00", "", "\x00", "", "")
}

// 6.1: a wrong head, alone, behind right frames, and with anything behind it; what stands ahead of it is told.
func TestWrongHeads(t *testing.T) {
	for _, x := range wrongHeads() {
		for _, l := range [][]api.Frame{nil, {{Kind: 5}}, {{Kind: 3, Body: body(1024)}}, few()} {
			for _, tail := range []string{"", "\x05", "\x05\x00\x00\x00", body(2000)} {
				f := New()
				tells(t, f, bytesOf(l)+x.b+tail, l...)
				is(t, f, 0, x.bad)
				silent(t, f, x.bad)
			}
		}
	}
}

// silent asks whether a broken feed tells nothing any more, whatever it is given, and stays broken as it was.
func silent(t *testing.T, f *Feed, bad api.Errno) {
	t.Helper()
	for _, p := range append([]string{"", "\x05", "\x00\x00\x00", "\x05\x00\x00\x00", bytesOf(frames()), "\x02\x00\x00\x04ab", "cd"}, put(frames()[10]), "\x00\x00\x00\x00", "\x05\x00\xff\xff") {
		tells(t, f, p)
		is(t, f, 0, bad)
	}
}

// 6.1, 6.2: a head is known to be wrong when its last byte has come, and not ahead of it.
func TestWrongHeadsCut(t *testing.T) {
	for _, x := range wrongHeads() {
		for _, l := range [][]api.Frame{nil, {{Kind: 5}}, few()} {
			for k := range 4 {
				f := New()
				tells(t, f, bytesOf(l)+x.b[:k], l...)
				is(t, f, k, api.OK)
				tells(t, f, x.b[k:]+"\x05\x00\x00\x00")
				is(t, f, 0, x.bad)
				silent(t, f, x.bad)
			}
			f := New()
			tells(t, f, bytesOf(l), l...)
			for k := range 3 {
				tells(t, f, x.b[k:k+1])
				is(t, f, k+1, api.OK)
			}
			tells(t, f, x.b[3:])
			is(t, f, 0, x.bad)
			silent(t, f, x.bad)
		}
	}
}

// 6.1: a frame that was begun ahead is told at the piece that has the wrong head, too.
func TestBeginsAhead(t *testing.T) {
	for _, x := range wrongHeads() {
		f := New()
		tells(t, f, "\x02\x00\x00\x02z")
		tells(t, f, "y"+x.b, api.Frame{Kind: 2, Body: "zy"})
		is(t, f, 0, x.bad)
		silent(t, f, x.bad)
	}
}

// 6.1: each kind's byte with each length.
func TestAllHeads(t *testing.T) {
	for kind := range 256 {
		for n := 0; n < 1<<16; n += 1 + n%7 {
			b := string([]byte{byte(kind), byte(n), byte(n / 256), byte(n % 256)})
			f := New()
			l := f.Push(b)
			want := model(b)
			if !slices.Equal(l, want.told) || f.Waits() != want.waits || f.Broken() != want.bad {
				t.Fatalf("Push(%q) = %s; %d, %v", b, told(l), f.Waits(), f.Broken())
			}
		}
	}
}

// 6.1: of nil all answers are zero values.
func TestNil(t *testing.T) {
	var f *Feed
	for _, p := range []string{"", "\x05", bytesOf(frames()), "\x00\x00\x00\x00", "\x05\x00\x00\x00"} {
		tells(t, f, p)
		is(t, f, 0, api.OK)
	}
}

// 6.1: one that no call made is as New's.
func TestNotMade(t *testing.T) {
	var a Feed
	for _, f := range []*Feed{&a, new(Feed), {}} {
		is(t, f, 0, api.OK)
		tells(t, f, "")
		tells(t, f, bytesOf(frames())+"\x02\x00", frames()...)
		is(t, f, 2, api.OK)
		tells(t, f, "\x00\x01")
		tells(t, f, "x\x05\x00\x04", api.Frame{Kind: 2, Body: "x"})
		is(t, f, 3, api.OK)
		tells(t, f, "\x01")
		is(t, f, 0, api.ErrLong)
		silent(t, f, api.ErrLong)
	}
}

// R5: feeds have nothing of one another.
func TestApart(t *testing.T) {
	a, b, c := New(), New(), New()
	tells(t, a, "\x02\x00\x00\x02a")
	tells(t, b, "\x03\x00\x00\x03b")
	tells(t, c, "\x00\x00\x00\x00")
	is(t, a, 5, api.OK)
	is(t, b, 5, api.OK)
	is(t, c, 0, api.ErrKind)
	tells(t, a, "A\x05", api.Frame{Kind: 2, Body: "aA"})
	tells(t, b, "BB", api.Frame{Kind: 3, Body: "bBB"})
	is(t, a, 1, api.OK)
	is(t, b, 0, api.OK)
}

// 6.2, R1: frames by chance, some bytes of which are changed or lost, in pieces by chance.
func TestByChance(t *testing.T) {
	r := rand.New(rand.NewSource(6))
	broken := 0
	for range 1000 {
		var b []byte
		for range r.Intn(20) {
			n := []int{0, 0, 1, 3, r.Intn(40), r.Intn(1025), 1024}[r.Intn(7)]
			at := make([]byte, n)
			r.Read(at)
			b = append(b, put(api.Frame{Kind: 1 + r.Intn(9), Flags: r.Intn(256), Body: string(at)})...)
		}
		if len(b) > 0 && r.Intn(2) == 0 {
			b[r.Intn(len(b))] = byte(r.Intn(256))
		}
		if len(b) > 0 && r.Intn(3) == 0 {
			at := r.Intn(len(b))
			b = slices.Delete(b, at, at+1)
		}
		if model(string(b)).bad != api.OK {
			broken++
		}
		held(t, byChance(r, string(b), []int{3, 9, 100, 1500, 5000}[r.Intn(5)])...)
	}
	if broken < 100 || broken > 900 {
		t.Errorf("%d of the feeds were broken", broken)
	}
}

// 6.2: a long stream, in pieces of one byte.
func TestLong(t *testing.T) {
	b := strings.Repeat(bytesOf(frames()), 40)
	f := New()
	var l []api.Frame
	for i := range len(b) {
		l = append(l, f.Push(b[i:i+1])...)
	}
	is(t, f, 0, api.OK)
	if !slices.Equal(l, slices.Repeat(frames(), 40)) {
		t.Errorf("%d frames, not as they were put", len(l))
	}
}

// apart tells whether two texts share no memory.
func apart(a, b string) bool {
	if a == "" || b == "" {
		return true
	}
	p, q := uintptr(unsafe.Pointer(unsafe.StringData(a))), uintptr(unsafe.Pointer(unsafe.StringData(b)))
	return p+uintptr(len(a)) <= q || q+uintptr(len(b)) <= p
}

// R4: what is handed in is not kept, and what is handed out shares nothing with it, nor with what is handed out beside it.
func TestOwnMemory(t *testing.T) {
	all := bytesOf(frames()) + "\x02\x00\x00\x09waits"
	for _, pieces := range [][]string{{all}, even(all, 100), even(all, 1500)} {
		f := New()
		var texts []string
		for _, p := range pieces {
			p = strings.Clone(p)
			texts = append(texts, p)
			for _, x := range f.Push(p) {
				texts = append(texts, x.Body)
			}
			if !apart(f.rest, p) {
				t.Error("a piece that was handed in is kept")
			}
		}
		for i, a := range texts {
			for _, b := range texts[:i] {
				if !apart(a, b) {
					t.Errorf("%.20q and %.20q share memory", a, b)
				}
			}
		}
	}
}

// R4: what was handed out does not change when more bytes come, and what is done to it changes nothing of the feed.
func TestStays(t *testing.T) {
	f := New()
	b := bytesOf(frames())
	x := api.Frame{Kind: 2, Body: body(20)}
	more := put(x)
	var lists [][]api.Frame
	for i := range 20 {
		lists = append(lists, f.Push(b+more[:i]))
		tells(t, f, more[i:], x)
	}
	tells(t, f, b[4:9])
	for i, l := range lists {
		if !slices.Equal(l, frames()) {
			t.Errorf("the frames of piece %d are %s by now", i, told(l))
		}
		clear(append(l, frames()...))
		clear(l)
	}
	is(t, f, 5, api.OK)
	tells(t, f, b[9:], frames()[1:]...)
}

func FuzzPush(f *testing.F) {
	f.Add(bytesOf(few()), 3, 5)
	f.Add(bytesOf(frames()), 1000, 2000)
	for _, x := range wrongHeads() {
		f.Add(put(api.Frame{Kind: 2, Body: "ab"})+x.b+"\x05\x00\x00\x00", 5, 8)
	}
	f.Fuzz(func(t *testing.T, b string, i, j int) {
		i = min(max(i, 0), len(b))
		j = min(max(j, i), len(b))
		held(t, b[:i], b[i:j], b[j:])
		held(t, even(b, 1)...)
	})
}
