package varint

import (
	"math"
	"math/rand"
	"strings"
	"testing"

	"concourse/api"
)

// row is a number and its bytes, written out from the chapter's words.
type row struct {
	n uint64
	b string
}

func rows() []row {
	full := strings.Repeat("\xff", 9)
	zero := strings.Repeat("\x80", 9)
	return []row{
		{0, "\x00"},
		{1, "\x01"},
		{127, "\x7f"},
		{128, "\x80\x01"},
		{129, "\x81\x01"},
		{255, "\xff\x01"},
		{256, "\x80\x02"},
		{300, "\xac\x02"},
		{1<<14 - 1, "\xff\x7f"},
		{1 << 14, "\x80\x80\x01"},
		{1<<21 - 1, "\xff\xff\x7f"},
		{1 << 21, "\x80\x80\x80\x01"},
		{1<<56 - 1, full[:7] + "\x7f"},
		{1 << 56, zero[:8] + "\x01"},
		{1<<63 - 1, full[:8] + "\x7f"},
		{1 << 63, zero + "\x01"},
		{1<<63 + 1, "\x81" + zero[:8] + "\x01"},
		{math.MaxUint64 - 1, "\xfe" + full[:8] + "\x01"},
		{math.MaxUint64, full + "\x01"},
	}
}

// signed is a number with a sign, and what it is when it is turned.
type signed struct {
	n int64
	u uint64
}

func signs() []signed {
	return []signed{
		{0, 0},
		{-1, 1},
		{1, 2},
		{-2, 3},
		{2, 4},
		{63, 126},
		{-64, 127},
		{64, 128},
		{-65, 129},
		{math.MaxInt64 - 1, math.MaxUint64 - 3},
		{math.MinInt64 + 1, math.MaxUint64 - 2},
		{math.MaxInt64, math.MaxUint64 - 1},
		{math.MinInt64, math.MaxUint64},
	}
}

// wrong is a text that begins with no number's bytes, and its error.
type wrong struct {
	b string
	e api.Errno
}

func wrongs() []wrong {
	l := []wrong{
		{"\x80\x00", api.ErrForm},
		{"\xff\x00", api.ErrForm},
		{"\x80\x00\x01", api.ErrForm},
		{"\x80\x80\x00", api.ErrForm},
		{strings.Repeat("\xff", 8) + "\x00", api.ErrForm},
		{strings.Repeat("\x80", 8) + "\x00" + "\x80", api.ErrForm},
		{strings.Repeat("\x80", 20), api.ErrForm},
		{strings.Repeat("\xff", 20), api.ErrForm},
		{strings.Repeat("\xff", 10) + "\x01", api.ErrForm},
	}
	for k := range 10 {
		l = append(l, wrong{strings.Repeat("\x80", k), api.ErrShort})
		l = append(l, wrong{strings.Repeat("\xff", k), api.ErrShort})
	}
	for c := range 256 {
		if c != 1 {
			l = append(l, wrong{strings.Repeat("\xff", 9) + string([]byte{byte(c)}), api.ErrForm})
			l = append(l, wrong{strings.Repeat("\x80", 9) + string([]byte{byte(c)}) + "\x01", api.ErrForm})
		}
	}
	return l
}

// tails are what may stand behind a number's bytes.
func tails() []string {
	return []string{"", "\x00", "\x01", "\x80", "x", "\xff\xff", strings.Repeat("\xff", 20)}
}

// spread gives numbers of each width: those around each power of 2, and some between.
func spread() []uint64 {
	r := rand.New(rand.NewSource(1))
	l := []uint64{0}
	for k := range 64 {
		p := uint64(1) << k
		l = append(l, p-1, p, p+1)
		for range 20 {
			l = append(l, p|r.Uint64()&(p-1))
		}
	}
	return l
}

// model tells a number's bytes by division.
func model(n uint64) string {
	if n < 128 {
		return string([]byte{byte(n)})
	}
	return string([]byte{byte(n%128 + 128)}) + model(n/128)
}

// 1.1.
func TestPut(t *testing.T) {
	for _, x := range rows() {
		if b := Put(x.n); b != x.b {
			t.Errorf("Put(%d) = %x, not %x", x.n, b, x.b)
		}
	}
	for _, n := range spread() {
		if b := Put(n); b != model(n) {
			t.Errorf("Put(%d) = %x, not %x", n, b, model(n))
		}
	}
}

// 1.1.
func TestTake(t *testing.T) {
	for _, x := range rows() {
		for _, tail := range tails() {
			n, k, e := Take(x.b + tail)
			if n != x.n || k != len(x.b) || e != api.OK {
				t.Errorf("Take(%x) = %d, %d, %v", x.b+tail, n, k, e)
			}
		}
	}
}

// 1.1, R2.
func TestTakeWrong(t *testing.T) {
	for _, x := range wrongs() {
		if n, k, e := Take(x.b); n != 0 || k != 0 || e != x.e {
			t.Errorf("Take(%x) = %d, %d, %v, not %v", x.b, n, k, e, x.e)
		}
	}
}

// 1.1: where the last byte is missing, nothing else is looked at.
func TestTakeCut(t *testing.T) {
	for _, x := range rows() {
		for k := range len(x.b) {
			if n, m, e := Take(x.b[:k]); n != 0 || m != 0 || e != api.ErrShort {
				t.Errorf("Take(%x) = %d, %d, %v", x.b[:k], n, m, e)
			}
		}
	}
}

// 1.2.
func TestLen(t *testing.T) {
	for _, x := range rows() {
		if k := Len(x.n); k != len(x.b) {
			t.Errorf("Len(%d) = %d, not %d", x.n, k, len(x.b))
		}
	}
	for _, n := range spread() {
		if k := Len(n); k != len(model(n)) || k < 1 || k > 10 {
			t.Errorf("Len(%d) = %d", n, k)
		}
	}
}

// 1.2.
func TestTurnBack(t *testing.T) {
	for _, x := range signs() {
		if u := Turn(x.n); u != x.u {
			t.Errorf("Turn(%d) = %d, not %d", x.n, u, x.u)
		}
		if n := Back(x.u); n != x.n {
			t.Errorf("Back(%d) = %d, not %d", x.u, n, x.n)
		}
	}
	for _, u := range spread() {
		n := Back(u)
		if n >= 0 && uint64(n)*2 != u || n < 0 && uint64(-(n+1))*2+1 != u {
			t.Errorf("Back(%d) = %d", u, n)
		}
		if Turn(n) != u {
			t.Errorf("Turn(%d) = %d, not %d", n, Turn(n), u)
		}
	}
}

// 1.3.
func TestPutInt(t *testing.T) {
	for n, b := range map[int64]string{
		0:             "\x00",
		-1:            "\x01",
		1:             "\x02",
		-64:           "\x7f",
		64:            "\x80\x01",
		150:           "\xac\x02",
		math.MaxInt64: "\xfe" + strings.Repeat("\xff", 8) + "\x01",
		math.MinInt64: strings.Repeat("\xff", 9) + "\x01",
	} {
		if got := PutInt(n); got != b {
			t.Errorf("PutInt(%d) = %x, not %x", n, got, b)
		}
	}
	for _, x := range signs() {
		if b := PutInt(x.n); b != model(x.u) {
			t.Errorf("PutInt(%d) = %x, not %x", x.n, b, model(x.u))
		}
	}
}

// 1.3.
func TestTakeInt(t *testing.T) {
	for _, x := range signs() {
		for _, tail := range tails() {
			b := model(x.u)
			n, k, e := TakeInt(b + tail)
			if n != x.n || k != len(b) || e != api.OK {
				t.Errorf("TakeInt(%x) = %d, %d, %v", b+tail, n, k, e)
			}
		}
	}
}

// 1.3, R2.
func TestTakeIntWrong(t *testing.T) {
	for _, x := range wrongs() {
		if n, k, e := TakeInt(x.b); n != 0 || k != 0 || e != x.e {
			t.Errorf("TakeInt(%x) = %d, %d, %v, not %v", x.b, n, k, e, x.e)
		}
	}
}

// 1.4.
func TestPutIsTaken(t *testing.T) {
	for _, u := range spread() {
		for _, tail := range tails() {
			if n, k, e := Take(Put(u) + tail); n != u || k != Len(u) || e != api.OK {
				t.Errorf("Take(Put(%d) + %x) = %d, %d, %v", u, tail, n, k, e)
			}
			s := int64(u)
			if n, k, e := TakeInt(PutInt(s) + tail); n != s || k != len(PutInt(s)) || e != api.OK {
				t.Errorf("TakeInt(PutInt(%d) + %x) = %d, %d, %v", s, tail, n, k, e)
			}
		}
	}
}

// 1.4.
func TestUnlikeNumbersUnlikeBytes(t *testing.T) {
	seen := map[string]uint64{}
	see := func(n uint64) {
		b := Put(n)
		if o, ok := seen[b]; ok && o != n {
			t.Fatalf("Put(%d) and Put(%d) are both %x", n, o, b)
		}
		seen[b] = n
	}
	for n := range uint64(1 << 16) {
		see(n)
	}
	for _, n := range spread() {
		see(n)
	}
}

// held asks of one text all that holds of any: what is taken are the bytes that were there, an error stands alone, and the same call has the same answer.
func held(t *testing.T, b string) {
	t.Helper()
	n, k, e := Take(b)
	switch e {
	case api.OK:
		if k < 1 || k > len(b) || Put(n) != b[:k] {
			t.Fatalf("Take(%x) = %d, %d", b, n, k)
		}
	case api.ErrShort, api.ErrForm:
		if n != 0 || k != 0 {
			t.Fatalf("Take(%x) = %d, %d, %v", b, n, k, e)
		}
	default:
		t.Fatalf("Take(%x): %v", b, e)
	}
	m, l, f := Take(b)
	if m != n || l != k || f != e {
		t.Fatalf("Take(%x) = %d, %d, %v, then %d, %d, %v", b, n, k, e, m, l, f)
	}
	s, l, f := TakeInt(b)
	if Turn(s) != n || l != k || f != e {
		t.Fatalf("TakeInt(%x) = %d, %d, %v", b, s, l, f)
	}
}

// 1.4, R1, R2, R5.
func TestAnyBytes(t *testing.T) {
	for x := range 1 << 16 {
		b := string([]byte{byte(x >> 8), byte(x)})
		held(t, b)
		held(t, b[1:])
		held(t, strings.Repeat("\x80", 8)+b)
		held(t, strings.Repeat("\xff", 7)+b)
	}
	r := rand.New(rand.NewSource(2))
	for range 100000 {
		b := make([]byte, r.Intn(14))
		for i := range b {
			b[i] = byte(r.Intn(256))
			if r.Intn(4) > 0 {
				b[i] |= 0x80
			}
		}
		held(t, string(b))
	}
}

// R4, R5: what a call answered is not changed by later calls.
func TestAnswersStay(t *testing.T) {
	a := Put(math.MaxUint64)
	b := PutInt(-1)
	for n := range uint64(1000) {
		Put(n)
		PutInt(int64(n))
	}
	if a != model(math.MaxUint64) || b != "\x01" {
		t.Errorf("%x, %x", a, b)
	}
}

func FuzzTake(f *testing.F) {
	for _, x := range rows() {
		f.Add(x.b)
	}
	for _, x := range wrongs() {
		f.Add(x.b)
	}
	f.Fuzz(held)
}
