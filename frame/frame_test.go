package frame

import (
	"fmt"
	"math"
	"math/rand"
	"strings"
	"testing"
	"unsafe"

	"concourse/api"
)

// body is a body of n bytes, none of which is as the one ahead of it.
func body(n int) string {
	b := make([]byte, n)
	for i := range b {
		b[i] = byte(i*7 + 1)
	}
	return string(b)
}

// told is a frame as a line.
func told(f api.Frame) string {
	return fmt.Sprintf("{%d %d %.60q (%d bytes)}", f.Kind, f.Flags, f.Body, len(f.Body))
}

// row is a frame and its bytes, written out from the chapter's words.
type row struct {
	f api.Frame
	b string
}

func rows() []row {
	return []row{
		{api.Frame{Kind: 5}, "\x05\x00\x00\x00"},
		{api.Frame{Kind: 1}, "\x01\x00\x00\x00"},
		{api.Frame{Kind: 9}, "\x09\x00\x00\x00"},
		{api.Frame{Kind: 1, Flags: 255}, "\x01\xff\x00\x00"},
		{api.Frame{Kind: 9, Flags: 255}, "\x09\xff\x00\x00"},
		{api.Frame{Kind: 3, Flags: 128, Body: "a"}, "\x03\x80\x00\x01a"},
		{api.Frame{Kind: 2, Flags: 1, Body: "\x00"}, "\x02\x01\x00\x01\x00"},
		{api.Frame{Kind: 4, Flags: 127, Body: "\xff\x80"}, "\x04\x7f\x00\x02\xff\x80"},
		// What is in a body is no frame of these.
		{api.Frame{Kind: 6, Body: "\x05\x00\x00\x00"}, "\x06\x00\x00\x04\x05\x00\x00\x00"},
		{api.Frame{Kind: 7, Flags: 3, Body: "\u20ac"}, "\x07\x03\x00\x03\xe2\x82\xac"},
		{api.Frame{Kind: 8, Body: body(127)}, "\x08\x00\x00\x7f" + body(127)},
		{api.Frame{Kind: 8, Body: body(128)}, "\x08\x00\x00\x80" + body(128)},
		// The last length of one byte, the first ones of two.
		{api.Frame{Kind: 2, Body: body(255)}, "\x02\x00\x00\xff" + body(255)},
		{api.Frame{Kind: 2, Body: body(256)}, "\x02\x00\x01\x00" + body(256)},
		{api.Frame{Kind: 2, Body: body(257)}, "\x02\x00\x01\x01" + body(257)},
		{api.Frame{Kind: 2, Flags: 7, Body: body(300)}, "\x02\x07\x01\x2c" + body(300)},
		{api.Frame{Kind: 9, Body: body(512)}, "\x09\x00\x02\x00" + body(512)},
		{api.Frame{Kind: 1, Flags: 9, Body: body(1023)}, "\x01\x09\x03\xff" + body(1023)},
		{api.Frame{Kind: 9, Flags: 255, Body: body(1024)}, "\x09\xff\x04\x00" + body(1024)},
	}
}

// tails are what may stand behind a frame.
func tails() []string {
	return []string{"", "\x00", "\x05", "x", "\xff\xff", "\x05\x00\x00\x00", "\x00\x00\x00\x00", "\x01\x00\x04\x01", "\x02\x00\x00\x05ab", body(1500)}
}

// 5.1.
func TestPut(t *testing.T) {
	for _, x := range rows() {
		if b, e := Put(x.f); b != x.b || e != api.OK {
			t.Errorf("Put(%s) = %.60q, %v, not %.60q", told(x.f), b, e, x.b)
		}
	}
}

// noKinds are no kinds: beside the bounds, and such as would be one if they lost bits.
func noKinds() []int {
	return []int{0, 10, -1, -2, -9, 11, 255, 256, 257, 265, -255, -251, 1<<16 + 5, 1<<32 + 1, 1<<62 + 9, math.MinInt, math.MinInt + 1, math.MaxInt}
}

// noFlags are no flags.
func noFlags() []int {
	return []int{-1, 256, -2, -255, -256, 257, 511, 512, 1 << 16, 1 << 32, 1<<32 + 1, math.MinInt, math.MinInt + 1, math.MaxInt}
}

// longs are bodies that are too long.
func longs() []string {
	return []string{body(1025), body(1026), body(2048), body(1<<16 - 1), body(1 << 16), body(1<<16 + 1), body(1<<16 + 1024)}
}

// refused asks whether a frame isn't put.
func refused(t *testing.T, f api.Frame, want api.Errno) {
	t.Helper()
	if b, e := Put(f); b != "" || e != want {
		t.Errorf("Put(%s) = %.60q, %v, not %v", told(f), b, e, want)
	}
}

// 5.1, R2: what the kind is counts ahead of the flags, and these ahead of the body's length.
func TestPutWrong(t *testing.T) {
	flags := append(noFlags(), 0, 1, 255)
	bodies := append(longs(), "", "a", body(1024))
	for _, kind := range noKinds() {
		for _, n := range flags {
			for _, s := range bodies {
				refused(t, api.Frame{Kind: kind, Flags: n, Body: s}, api.ErrKind)
			}
		}
	}
	for kind := 1; kind <= 9; kind++ {
		for _, n := range noFlags() {
			for _, s := range bodies {
				refused(t, api.Frame{Kind: kind, Flags: n, Body: s}, api.ErrForm)
			}
		}
		for _, n := range []int{0, 1, 128, 255} {
			for _, s := range longs() {
				refused(t, api.Frame{Kind: kind, Flags: n, Body: s}, api.ErrLong)
			}
		}
	}
}

// 5.1: the body stands behind the head, or isn't there yet.
func TestHead(t *testing.T) {
	for _, x := range rows() {
		for _, tail := range append(tails(), x.b[4:]) {
			kind, flags, n, e := Head(x.b[:4] + tail)
			if kind != x.f.Kind || flags != x.f.Flags || n != len(x.f.Body) || e != api.OK {
				t.Errorf("Head(%.60q) = %d, %d, %d, %v", x.b[:4]+tail, kind, flags, n, e)
			}
		}
	}
}

// 5.1, R2: each kind with each length, whatever the flags.
func TestAllHeads(t *testing.T) {
	for kind := range 256 {
		for n := range 1 << 16 {
			flags := (kind + n) % 256
			b := string([]byte{byte(kind), byte(flags), byte(n / 256), byte(n % 256)})
			k, f, m, e := Head(b)
			var good bool
			switch {
			case kind < 1 || kind > 9:
				good = k == 0 && f == 0 && m == 0 && e == api.ErrKind
			case n > 1024:
				good = k == 0 && f == 0 && m == 0 && e == api.ErrLong
			default:
				good = k == kind && f == flags && m == n && e == api.OK
			}
			if !good {
				t.Fatalf("Head(%q) = %d, %d, %d, %v", b, k, f, m, e)
			}
		}
	}
}

// wrong is bytes that begin with no head, and what is wrong first.
type wrong struct {
	b string
	e api.Errno
}

func wrongHeads() []wrong {
	return []wrong{
		// A head that is cut off is told ahead of what is wrong with it.
		{"", api.ErrShort},
		{"\x05", api.ErrShort},
		{"\x05\x00", api.ErrShort},
		{"\x05\x00\x00", api.ErrShort},
		{"\x00", api.ErrShort},
		{"\x0a\x00\x00", api.ErrShort},
		{"\xff\xff\xff", api.ErrShort},
		{"\x05\x00\xff", api.ErrShort},
		{"\x00\x00\x00\x00", api.ErrKind},
		{"\x0a\x00\x00\x00", api.ErrKind},
		{"\xff\x00\x00\x00", api.ErrKind},
		{"\x81\x00\x00\x00", api.ErrKind},
		{"\x00\x00\x00\x01a", api.ErrKind},
		// The kind is told ahead of the length, and both ahead of a body that is cut off.
		{"\x00\x00\x04\x01", api.ErrKind},
		{"\x0a\xff\xff\xff", api.ErrKind},
		{"\x0a\x00\x00\x01", api.ErrKind},
		{"\x01\x00\x04\x01", api.ErrLong},
		{"\x09\x00\x04\x01", api.ErrLong},
		{"\x05\xff\x05\x00", api.ErrLong},
		{"\x05\x00\x08\x00", api.ErrLong},
		{"\x05\x00\x80\x00", api.ErrLong},
		{"\x05\x00\xff\xff", api.ErrLong},
		{"\x01\x00\x04\x01" + body(1024), api.ErrLong},
		{"\x01\x00\x04\x01" + body(1025), api.ErrLong},
		{"\x01\x00\xff\xff" + body(1<<16), api.ErrLong},
	}
}

// 5.1, R2.
func TestWrongHeads(t *testing.T) {
	for _, x := range wrongHeads() {
		if kind, flags, n, e := Head(x.b); kind != 0 || flags != 0 || n != 0 || e != x.e {
			t.Errorf("Head(%.60q) = %d, %d, %d, %v, not %v", x.b, kind, flags, n, e, x.e)
		}
		if f, k, e := Take(x.b); f != (api.Frame{}) || k != 0 || e != x.e {
			t.Errorf("Take(%.60q) = %s, %d, %v, not %v", x.b, told(f), k, e, x.e)
		}
	}
}

// 5.1.
func TestTake(t *testing.T) {
	for _, x := range rows() {
		for _, tail := range tails() {
			if f, k, e := Take(x.b + tail); f != x.f || k != len(x.b) || e != api.OK {
				t.Errorf("Take(%.60q) = %s, %d, %v", x.b+tail, told(f), k, e)
			}
		}
	}
}

// 5.1, R2: wherever a frame is cut off.
func TestTakeCut(t *testing.T) {
	for _, x := range rows() {
		for k := range len(x.b) {
			if f, n, e := Take(x.b[:k]); f != (api.Frame{}) || n != 0 || e != api.ErrShort {
				t.Errorf("Take(%.60q), cut off at %d = %s, %d, %v", x.b, k, told(f), n, e)
			}
		}
	}
}

// 5.2.
func TestCost(t *testing.T) {
	l := []struct{ length, cost int }{
		{math.MinInt, 16}, {math.MinInt + 1, 16}, {-1 << 32, 16}, {-1024, 16}, {-17, 16}, {-16, 16}, {-1, 16},
		{0, 16}, {1, 17}, {16, 32}, {255, 271}, {256, 272}, {300, 316}, {1023, 1039}, {1024, 1040},
		{1025, 1040}, {1040, 1040}, {2000, 1040}, {1 << 32, 1040}, {1<<32 + 1, 1040}, {math.MaxInt - 16, 1040}, {math.MaxInt, 1040},
	}
	for _, x := range l {
		if n := Cost(x.length); n != x.cost {
			t.Errorf("Cost(%d) = %d, not %d", x.length, n, x.cost)
		}
	}
	for n := range 1025 {
		if Cost(n) != n+16 {
			t.Errorf("Cost(%d) = %d", n, Cost(n))
		}
	}
}

// 5.2.
func TestAsks(t *testing.T) {
	l := []struct {
		kind int
		asks bool
	}{
		{api.KindHello, false},
		{api.KindCall, true},
		{api.KindOneWay, true},
		{api.KindCancel, true},
		{api.KindPing, false},
		{api.KindSchema, true},
		{api.KindBind, true},
		{api.KindAdmin, false},
		{api.KindReply, false},
	}
	for _, x := range l {
		if Asks(x.kind) != x.asks {
			t.Errorf("Asks(%d) = %v", x.kind, !x.asks)
		}
	}
	for _, kind := range append(noKinds(), 258, -254, 1<<32+2, math.MinInt+2) {
		if Asks(kind) {
			t.Errorf("Asks(%d) = true", kind)
		}
	}
}

// 5.3: each kind with each of the flags, bodies by chance, and what stands behind by chance.
func TestPutIsTaken(t *testing.T) {
	r := rand.New(rand.NewSource(5))
	all := make([]byte, 4096)
	r.Read(all)
	for kind := 1; kind <= 9; kind++ {
		for flags := range 256 {
			for _, n := range []int{0, 1, 255, 256, 1024, r.Intn(1025), r.Intn(1025)} {
				at := r.Intn(len(all) - n + 1)
				f := api.Frame{Kind: kind, Flags: flags, Body: string(all[at : at+n])}
				taken(t, f, string(all[:r.Intn(len(all))]))
				taken(t, f, "")
			}
		}
	}
}

// taken asks whether a frame is taken as it was put, whatever stands behind it.
func taken(t *testing.T, f api.Frame, tail string) {
	t.Helper()
	b, e := Put(f)
	if e != api.OK || len(b) != 4+len(f.Body) {
		t.Fatalf("Put(%s) = %.60q, %v", told(f), b, e)
	}
	if kind, flags, n, e := Head(b + tail); kind != f.Kind || flags != f.Flags || n != len(f.Body) || e != api.OK {
		t.Fatalf("Head(%.60q) = %d, %d, %d, %v", b+tail, kind, flags, n, e)
	}
	if g, k, e := Take(b + tail); g != f || k != len(b) || e != api.OK {
		t.Fatalf("Take(%.60q) = %s, %d, %v", b+tail, told(g), k, e)
	}
}

// 5.3: frames one behind the other are taken in their order.
func TestFramesInRow(t *testing.T) {
	var b string
	for _, x := range rows() {
		s, e := Put(x.f)
		if e != api.OK {
			t.Fatal(x.f, e)
		}
		b += s
	}
	for _, x := range rows() {
		f, k, e := Take(b)
		if f != x.f || e != api.OK {
			t.Fatalf("Take(%.60q) = %s, %d, %v", b, told(f), k, e)
		}
		b = b[k:]
	}
	if b != "" {
		t.Errorf("%d bytes are left", len(b))
	}
}

// take tells by the chapter's words with which frame bytes begin, and what is wrong first.
func take(b string) (f api.Frame, length, k int, head, e api.Errno) {
	if len(b) < 4 {
		return f, 0, 0, api.ErrShort, api.ErrShort
	}
	n := 256*int(b[2]) + int(b[3])
	switch {
	case b[0] < 1 || b[0] > 9:
		return f, 0, 0, api.ErrKind, api.ErrKind
	case n > 1024:
		return f, 0, 0, api.ErrLong, api.ErrLong
	}
	f = api.Frame{Kind: int(b[0]), Flags: int(b[1])}
	if n > len(b)-4 {
		return f, n, 0, api.OK, api.ErrShort
	}
	f.Body = b[4 : 4+n]
	return f, n, 4 + n, api.OK, api.OK
}

// held asks of any bytes whether Head, Take and Put do what the chapter says.
func held(t *testing.T, b string) {
	t.Helper()
	f, length, k, eh, et := take(b)
	if kind, flags, n, e := Head(b); kind != f.Kind || flags != f.Flags || n != length || e != eh {
		t.Fatalf("Head(%.60q) = %d, %d, %d, %v, not %d, %d, %d, %v", b, kind, flags, n, e, f.Kind, f.Flags, length, eh)
	}
	if et != api.OK {
		f = api.Frame{}
	}
	g, n, e := Take(b)
	if g != f || n != k || e != et {
		t.Fatalf("Take(%.60q) = %s, %d, %v, not %s, %d, %v", b, told(g), n, e, told(f), k, et)
	}
	if e != api.OK {
		return
	}
	if s, e := Put(g); s != b[:k] || e != api.OK {
		t.Fatalf("Put(%s) = %.60q, %v, not %.60q", told(g), s, e, b[:k])
	}
}

// 5.1, R1, R2, R5: bytes by chance; they are frames mostly, of which some are cut off.
func TestAnyBytes(t *testing.T) {
	r := rand.New(rand.NewSource(6))
	good := 0
	for range 200000 {
		b := make([]byte, r.Intn(60))
		r.Read(b)
		if len(b) >= 4 && r.Intn(4) > 0 {
			b[0], b[2], b[3] = byte(r.Intn(11)), 0, byte(r.Intn(len(b)+2))
		}
		held(t, string(b))
		if _, _, _, _, e := take(string(b)); e == api.OK {
			good++
		}
	}
	if good < 20000 || good > 180000 {
		t.Errorf("%d of the bytes were frames", good)
	}
}

// 5.1: all bytes of up to two, alone and as the ends of heads.
func TestShortBytes(t *testing.T) {
	held(t, "")
	for a := range 256 {
		held(t, string([]byte{byte(a)}))
		held(t, string([]byte{byte(a), 0, 0}))
		for b := range 256 {
			held(t, string([]byte{byte(a), byte(b)}))
			held(t, string([]byte{byte(a), byte(b), 0, 0}))
			held(t, string([]byte{byte(a), byte(b), 0, 1}))
			held(t, string([]byte{3, 9, byte(a), byte(b)}))
			held(t, string([]byte{3, 9, byte(a), byte(b)})+body(1024))
		}
	}
}

// apart tells whether two texts share no memory.
func apart(a, b string) bool {
	if a == "" || b == "" {
		return true
	}
	p, q := uintptr(unsafe.Pointer(unsafe.StringData(a))), uintptr(unsafe.Pointer(unsafe.StringData(b)))
	return p+uintptr(len(a)) <= q || q+uintptr(len(b)) <= p
}

// R4: what is handed out is own memory.
func TestOwnMemory(t *testing.T) {
	for _, n := range []int{1, 5, 300, 1024} {
		s := strings.Clone(body(n))
		b, e := Put(api.Frame{Kind: 2, Body: s})
		if e != api.OK || !apart(b, s) || s != body(n) {
			t.Errorf("Put of %d bytes: %v, or they are shared", n, e)
		}
		f, _, e := Take(b)
		g, _, _ := Take(b)
		if e != api.OK || !apart(f.Body, b) || !apart(f.Body, g.Body) {
			t.Errorf("Take of %d bytes: %v, or they are shared", n, e)
		}
	}
}

func FuzzTake(f *testing.F) {
	for _, x := range rows() {
		f.Add(x.b)
		f.Add(x.b + "\x05\x00")
		f.Add(x.b[:len(x.b)-1])
	}
	for _, x := range wrongHeads() {
		f.Add(x.b)
	}
	f.Fuzz(held)
}
