package hello

import (
	"math"
	"math/big"
	"math/rand"
	"strings"
	"sync"
	"testing"

	"concourse/api"
	"concourse/dice"
	"concourse/mac"
)

// last is the last owner, by the words of chapter 21; great is the greatest number of an owner or an epoch in a body that is taken.
const (
	last  = 8
	great = 2147483647
)

// bytesOf is a number's bytes by the words of chapter 1, in numbers without bounds.
func bytesOf(n uint64) string {
	base := big.NewInt(128)
	left := new(big.Int).SetUint64(n)
	digit := new(big.Int)
	var b []byte
	for {
		left.QuoRem(left, base, digit)
		if left.Sign() == 0 {
			return string(append(b, byte(digit.Int64())))
		}
		b = append(b, byte(digit.Int64()+128))
	}
}

// body is a hello's body by the chapter's words.
func body(owner, epoch, tag uint64) string {
	return bytesOf(owner) + bytesOf(epoch) + bytesOf(tag)
}

// wordsPut is what Put should tell.
func wordsPut(h Hello) (string, api.Errno) {
	if h.Owner < 0 || h.Epoch < 0 {
		return "", api.ErrForm
	}
	return body(uint64(h.Owner), uint64(h.Epoch), h.Tag), api.OK
}

// pieces are bytes, cut behind each byte without bit 7; false: they end within one.
func pieces(b string) ([]string, bool) {
	var l []string
	from := 0
	for i := range len(b) {
		if b[i]/128 == 0 {
			l = append(l, b[from:i+1])
			from = i + 1
		}
	}
	return l, from == len(b)
}

// numberOf is the number whose bytes a piece is, if it is one's, of at most 64 bits.
func numberOf(piece string) (*big.Int, bool) {
	n := new(big.Int)
	for i := len(piece) - 1; i >= 0; i-- {
		n.Mul(n, big.NewInt(128)).Add(n, big.NewInt(int64(piece[i]%128)))
	}
	least := len(piece) == 1 || piece[len(piece)-1] != 0
	return n, least && n.BitLen() <= 64
}

// wordsTake is what Take should tell: the body is cut into pieces first, and each is looked at by itself.
func wordsTake(b string) (Hello, api.Errno) {
	l, whole := pieces(b)
	if !whole || len(l) != 3 {
		return Hello{}, api.ErrForm
	}
	var n [3]*big.Int
	for i, piece := range l {
		var ok bool
		n[i], ok = numberOf(piece)
		if !ok || i < 2 && n[i].Cmp(big.NewInt(great)) > 0 {
			return Hello{}, api.ErrForm
		}
	}
	return Hello{Owner: int(n[0].Int64()), Epoch: int(n[1].Int64()), Tag: n[2].Uint64()}, api.OK
}

// put asks Put, and whether the answer is as the words say.
func put(t *testing.T, h Hello) string {
	t.Helper()
	b, e := Put(h)
	if want, err := wordsPut(h); b != want || e != err {
		t.Fatalf("Put(%v) = %q, %v, not %q, %v", h, b, e, want, err)
	}
	return b
}

// take asks Take, and whether the answer is as the words say.
func take(t *testing.T, b string) (Hello, api.Errno) {
	t.Helper()
	h, e := Take(b)
	if want, err := wordsTake(b); h != want || e != err {
		t.Fatalf("Take(%q) = %v, %v, not %v, %v", b, h, e, want, err)
	}
	return h, e
}

// none asks whether bytes are no hello's body, to Take and to Verify.
func none(t *testing.T, x *mac.Table, b string) {
	t.Helper()
	if h, e := take(t, b); h != (Hello{}) || e != api.ErrForm {
		t.Fatalf("Take(%q) = %v, %v", b, h, e)
	}
	refused(t, x, b)
}

// refused asks whether a body has the one answer to all that is wrong.
func refused(t *testing.T, x *mac.Table, b string) {
	t.Helper()
	if owner, e := Verify(x, b); owner != 0 || e != api.ErrAuth {
		t.Fatalf("Verify(%q) = %d, %v", b, owner, e)
	}
}

// verified asks whether a body proves an owner.
func verified(t *testing.T, x *mac.Table, b string, owner int) {
	t.Helper()
	if o, e := Verify(x, b); o != owner || e != api.OK {
		t.Fatalf("Verify(%q) = %d, %v, not %d", b, o, e, owner)
	}
}

// numbers are small ones, those at which one byte more is wanted, and those about each bit.
func numbers() []uint64 {
	l := []uint64{0, 5, 100, 300, math.MaxUint64, math.MaxUint64 - 1, 0x5555555555555555, 0xaaaaaaaaaaaaaaaa, 12345678901234567890}
	for i := range 64 {
		l = append(l, 1<<i-1, 1<<i, 1<<i+1)
	}
	return l
}

// small are the numbers that an owner or an epoch may be in a body that is taken.
func small() []int {
	var l []int
	for _, n := range numbers() {
		if n <= great {
			l = append(l, int(n))
		}
	}
	return l
}

// row is a hello, and its body, which was worked out apart.
type row struct {
	owner, epoch int
	tag          uint64
	body         string
}

func rows() []row {
	return []row{
		{1, 1, 5, "\x01\x01\x05"},
		{0, 0, 0, "\x00\x00\x00"},
		{0, 1, 1, "\x00\x01\x01"},
		{8, 300, 18446744073709551615, "\x08\xac\x02\xff\xff\xff\xff\xff\xff\xff\xff\xff\x01"},
		{127, 128, 9223372036854775808, "\x7f\x80\x01\x80\x80\x80\x80\x80\x80\x80\x80\x80\x01"},
		{128, 127, 127, "\x80\x01\x7f\x7f"},
		{16383, 16384, 16384, "\xff\x7f\x80\x80\x01\x80\x80\x01"},
		{16384, 16383, 128, "\x80\x80\x01\xff\x7f\x80\x01"},
		{2147483647, 0, 0, "\xff\xff\xff\xff\x07\x00\x00"},
		{0, 2147483647, 9223372036854775807, "\x00\xff\xff\xff\xff\x07\xff\xff\xff\xff\xff\xff\xff\xff\x7f"},
		{2147483647, 2147483647, 18446744073709551615, "\xff\xff\xff\xff\x07\xff\xff\xff\xff\x07\xff\xff\xff\xff\xff\xff\xff\xff\xff\x01"},
		{1, 1, 16584132540284586915, "\x01\x01\xa3\x97\xa3\xdd\xdc\x95\xab\x93\xe6\x01"},
		{5, 255, 12345678901234567890, "\x05\xff\x01\xd2\x95\xfc\xd8\xce\xb1\xaa\xaa\xab\x01"},
		{2097151, 2097152, 268435456, "\xff\xff\x7f\x80\x80\x80\x01\x80\x80\x80\x80\x01"},
		{268435455, 268435456, 34359738368, "\xff\xff\xff\x7f\x80\x80\x80\x80\x01\x80\x80\x80\x80\x80\x01"},
		{3, 70000, 72057594037927935, "\x03\xf0\xa2\x04\xff\xff\xff\xff\xff\xff\xff\x7f"},
		{3, 7, 562949953421312, "\x03\x07\x80\x80\x80\x80\x80\x80\x80\x01"},
		{1073741824, 268435455, 72057594037927936, "\x80\x80\x80\x80\x04\xff\xff\xff\x7f\x80\x80\x80\x80\x80\x80\x80\x80\x01"},
	}
}

// tooGreat are rows whose owner or epoch is above 2^31 - 1: they are put, and not taken.
func tooGreat() []row {
	return []row{
		{2147483648, 0, 0, "\x80\x80\x80\x80\x08\x00\x00"},
		{0, 2147483648, 0, "\x00\x80\x80\x80\x80\x08\x00"},
		{2147483648, 2147483648, 1, "\x80\x80\x80\x80\x08\x80\x80\x80\x80\x08\x01"},
		{4294967296, 1, 1, "\x80\x80\x80\x80\x10\x01\x01"},
		{1, 4294967297, 1, "\x01\x81\x80\x80\x80\x10\x01"},
		{9223372036854775807, 1, 5, "\xff\xff\xff\xff\xff\xff\xff\xff\x7f\x01\x05"},
		{1, 9223372036854775807, 5, "\x01\xff\xff\xff\xff\xff\xff\xff\xff\x7f\x05"},
		{9223372036854775807, 9223372036854775807, 18446744073709551615, "\xff\xff\xff\xff\xff\xff\xff\xff\x7f\xff\xff\xff\xff\xff\xff\xff\xff\x7f\xff\xff\xff\xff\xff\xff\xff\xff\xff\x01"},
	}
}

// The chapter's example: of 1, 1, 5: 1, 1, 5.
func TestExample(t *testing.T) {
	b, e := Put(Hello{Owner: 1, Epoch: 1, Tag: 5})
	if b != "\x01\x01\x05" || e != api.OK {
		t.Errorf("Put = %q, %v", b, e)
	}
	h, e := Take("\x01\x01\x05")
	if h != (Hello{Owner: 1, Epoch: 1, Tag: 5}) || e != api.OK {
		t.Errorf("Take = %v, %v", h, e)
	}
}

// The whole's example: the number 5, and the tenant 1: the data 1, 1, and the number Mix(5, 257).
func TestWhole(t *testing.T) {
	x, d := mac.New(), dice.New()
	d.Put(5)
	epoch, tag, _ := x.Issue(1, d)
	b := put(t, Hello{Owner: 1, Epoch: epoch, Tag: tag})
	if b != "\x01\x01\xa3\x97\xa3\xdd\xdc\x95\xab\x93\xe6\x01" || tag != dice.Mix(5, 257) {
		t.Errorf("the body is %q", b)
	}
	verified(t, x, b, 1)
}

// 22.1: hellos of small and of great numbers, whose bodies were worked out apart.
func TestRows(t *testing.T) {
	for _, r := range rows() {
		want := Hello{Owner: r.owner, Epoch: r.epoch, Tag: r.tag}
		if b, e := Put(want); b != r.body || e != api.OK {
			t.Errorf("Put(%v) = %q, %v, not %q", want, b, e, r.body)
		}
		if h, e := Take(r.body); h != want || e != api.OK {
			t.Errorf("Take(%q) = %v, %v, not %v", r.body, h, e, want)
		}
		put(t, want)
		take(t, r.body)
	}
}

// 22.1: an owner or an epoch above 2^31 - 1 is put, as it is not below 0, and is not taken.
func TestTooGreat(t *testing.T) {
	for _, r := range tooGreat() {
		h := Hello{Owner: r.owner, Epoch: r.epoch, Tag: r.tag}
		if b, e := Put(h); b != r.body || e != api.OK {
			t.Errorf("Put(%v) = %q, %v, not %q", h, b, e, r.body)
		}
		put(t, h)
		none(t, mac.New(), r.body)
	}
	// An owner or an epoch of all 64 bits is no int.
	for _, n := range []uint64{1 << 63, 1<<63 + 1, math.MaxUint64} {
		none(t, mac.New(), body(n, 1, 5))
		none(t, mac.New(), body(1, n, 5))
		none(t, mac.New(), body(n, n, 5))
	}
}

// 22.1: each of owner and epoch, by itself, about 2^31 - 1, with each other one.
func TestBound(t *testing.T) {
	for n := uint64(great - 300); n < great+300; n++ {
		for _, other := range []uint64{0, 1, 127, 128, great - 1, great} {
			for _, tag := range []uint64{0, 1, 1 << 31, math.MaxUint64} {
				want := api.OK
				if n > great {
					want = api.ErrForm
				}
				for _, b := range []string{body(n, other, tag), body(other, n, tag)} {
					if _, e := take(t, b); e != want {
						t.Fatalf("Take(%q) = %v, not %v", b, e, want)
					}
				}
				put(t, Hello{Owner: int(n), Epoch: int(other), Tag: tag})
				put(t, Hello{Owner: int(other), Epoch: int(n), Tag: tag})
			}
		}
	}
}

// 22.1: a number of great bits whose last 31, 32 or fewer bits are a small one is not taken for it.
func TestGreatBits(t *testing.T) {
	for i := 31; i < 64; i++ {
		for _, n := range []uint64{0, 1, 8, great} {
			for _, far := range []uint64{1 << i, math.MaxUint64 << i} {
				none(t, mac.New(), body(n|far, 1, 5))
				none(t, mac.New(), body(1, n|far, 5))
				none(t, mac.New(), body(n|far, n|far, 5))
				if h, e := take(t, body(1, 1, n|far)); e != api.OK || h.Tag != n|far {
					t.Fatalf("the tag %d is taken as %d, %v", n|far, h.Tag, e)
				}
			}
		}
	}
}

// 22.1, 22.3: what is put is taken: all owners and epochs at the edges of their bits, with some tags, and all tags.
func TestPutTaken(t *testing.T) {
	ask := func(h Hello) {
		t.Helper()
		b := put(t, h)
		if got, e := take(t, b); got != h || e != api.OK {
			t.Fatalf("Take(Put(%v)) = %v, %v", h, got, e)
		}
	}
	for _, owner := range small() {
		for _, epoch := range small() {
			for _, tag := range []uint64{0, 1, 127, 128, math.MaxUint64} {
				ask(Hello{Owner: owner, Epoch: epoch, Tag: tag})
			}
		}
	}
	for _, tag := range numbers() {
		for _, n := range []int{0, 1, 127, 128, 16383, 16384, great} {
			ask(Hello{Owner: n, Epoch: 3, Tag: tag})
			ask(Hello{Owner: 3, Epoch: n, Tag: tag})
			ask(Hello{Owner: n, Epoch: n, Tag: tag})
		}
	}
	for n := range 70000 {
		ask(Hello{Owner: n, Epoch: 1, Tag: 2})
		ask(Hello{Owner: 1, Epoch: n, Tag: 2})
		ask(Hello{Owner: 1, Epoch: 2, Tag: uint64(n)})
	}
}

// 22.1: an owner or an epoch below 0: ErrForm, and no body, whatever the others are.
func TestPutBelow(t *testing.T) {
	below := []int{-1, -2, -8, -127, -128, -129, -great, -great - 1, -great - 2, -1 << 32, -1<<32 + 1, -1 << 33, math.MinInt, math.MinInt + 1}
	others := []int{0, 1, 8, great, great + 1, math.MaxInt, -1, math.MinInt}
	for _, n := range below {
		for _, other := range others {
			for _, tag := range []uint64{0, 1, math.MaxUint64} {
				for _, h := range []Hello{{n, other, tag}, {other, n, tag}} {
					if b, e := Put(h); b != "" || e != api.ErrForm {
						t.Errorf("Put(%v) = %q, %v", h, b, e)
					}
				}
			}
		}
	}
}

// 22.1: the bytes are three numbers', and no more.
func TestLengths(t *testing.T) {
	for _, r := range []struct {
		h    Hello
		want int
	}{
		{Hello{}, 3},
		{Hello{127, 127, 127}, 3},
		{Hello{128, 127, 127}, 4},
		{Hello{127, 128, 127}, 4},
		{Hello{127, 127, 128}, 4},
		{Hello{16383, 16383, 16383}, 6},
		{Hello{16384, 16384, 16384}, 9},
		{Hello{great, great, math.MaxUint64}, 20},
		{Hello{0, 0, 1<<63 - 1}, 11},
		{Hello{0, 0, 1 << 63}, 12},
		{Hello{math.MaxInt, math.MaxInt, math.MaxUint64}, 28},
	} {
		if b, e := Put(r.h); len(b) != r.want || e != api.OK {
			t.Errorf("Put(%v) is of %d bytes, not %d; %v", r.h, len(b), r.want, e)
		}
	}
}

// bodies are those of all rows, and of hellos at the edges.
func bodies() []string {
	var l []string
	for _, r := range rows() {
		l = append(l, r.body)
	}
	for _, n := range []uint64{0, 1, 127, 128, 16383, 16384, great} {
		for _, tag := range []uint64{0, 1, 127, 128, 16383, 16384, 1<<63 - 1, 1 << 63, math.MaxUint64} {
			l = append(l, body(n, 1, tag), body(1, n, tag), body(n, n, tag))
		}
	}
	return l
}

// 22.1: a body of which something is cut off, at each place, behind and ahead.
func TestCutOff(t *testing.T) {
	x := mac.New()
	for _, b := range bodies() {
		for k := range len(b) {
			none(t, x, b[:k])
		}
		// What is left behind a cut may be another hello: the owner's bytes are longer than one.
		for k := 1; k <= len(b); k++ {
			take(t, b[k:])
		}
	}
	none(t, x, "")
}

// 22.1: one byte more behind a body, whichever; a whole body more; a byte more ahead.
func TestMore(t *testing.T) {
	x := mac.New()
	for _, b := range bodies() {
		for c := range 256 {
			none(t, x, b+string([]byte{byte(c)}))
			take(t, string([]byte{byte(c)})+b)
			none(t, x, string([]byte{byte(c & 127)})+b)
		}
		none(t, x, b+b)
		none(t, x, b+"\x00\x00\x00")
		none(t, x, b+strings.Repeat("\x01", 1000))
		for _, other := range bodies() {
			none(t, x, b+other)
		}
	}
}

// 22.1: numbers' bytes that are none, at each of the three places.
func TestWrongNumbers(t *testing.T) {
	x := mac.New()
	ten := strings.Repeat("\x80", 9)
	wrong := []string{
		"\x80\x00", "\x81\x00", "\xff\x00", "\x80\x80\x00", "\x85\x80\x80\x00", ten + "\x00", // a last byte 0 behind others
		ten + "\x02", ten + "\x03", ten + "\x7f", strings.Repeat("\xff", 9) + "\x02", "\x81" + ten[1:] + "\x10", // a tenth byte above 1
		ten + "\x80\x01", ten + "\x80\x00", ten + "\x81\x01", ten + "\x81\x00", strings.Repeat("\xff", 10) + "\x01", strings.Repeat("\x80", 10) + "\x80\x80\x01", strings.Repeat("\xff", 100) + "\x01", // more than ten bytes
		"\x80", "\xff", ten, ten + "\x80", strings.Repeat("\x80", 11), strings.Repeat("\xff", 1000), // no last byte
	}
	good := []string{"\x00", "\x01", "\x7f", "\x80\x01", "\xff\xff\xff\xff\x07"}
	for _, w := range wrong {
		for _, g := range good {
			for _, h := range good {
				none(t, x, w+g+h)
				none(t, x, g+w+h)
				none(t, x, g+h+w)
			}
			none(t, x, w+w+g)
			none(t, x, w+g+w)
			none(t, x, g+w+w)
			none(t, x, g+w)
			none(t, x, w+g)
		}
		none(t, x, w+w+w)
		none(t, x, w)
	}
	// A tenth byte that may be: as an owner or an epoch it is too great, as a tag it is one of 64 bits.
	most := ten + "\x01"
	none(t, x, most+"\x01\x01")
	none(t, x, "\x01"+most+"\x01")
	if h, e := take(t, "\x01\x01"+most); h != (Hello{1, 1, 1 << 63}) || e != api.OK {
		t.Errorf("a tag of 2^63 is taken as %v, %v", h, e)
	}
}

// 22.1: all bytes up to two; all longer ones of those that make a difference.
func TestAllShort(t *testing.T) {
	x := mac.New()
	none(t, x, "")
	for a := range 256 {
		none(t, x, string([]byte{byte(a)}))
		for b := range 256 {
			none(t, x, string([]byte{byte(a), byte(b)}))
			for _, c := range []byte{0, 1, 127, 128, 255} {
				s := string([]byte{byte(a), byte(b), c})
				_, e := take(t, s)
				if fine := a < 128 && b < 128 && c < 128; fine != (e == api.OK) {
					t.Fatalf("Take(%q) = %v", s, e)
				}
			}
		}
	}
	letters := []byte{0, 1, 7, 127, 128, 129, 255}
	var longer func(ahead []byte)
	longer = func(ahead []byte) {
		take(t, string(ahead))
		if len(ahead) == 6 {
			return
		}
		for _, c := range letters {
			longer(append(ahead, c))
		}
	}
	longer(nil)
}

// 22.3: no other bytes are taken as a hello that was put: what is taken has the bytes that were there.
func TestOneBody(t *testing.T) {
	seen := map[Hello]string{}
	ask := func(b string) {
		t.Helper()
		h, e := take(t, b)
		if e != api.OK {
			return
		}
		if again := put(t, h); again != b {
			t.Fatalf("Put(Take(%q)) = %q", b, again)
		}
		if was, ok := seen[h]; ok && was != b {
			t.Fatalf("%q and %q are both taken as %v", was, b, h)
		}
		seen[h] = b
	}
	for _, b := range bodies() {
		ask(b)
		for i := range len(b) {
			for c := range 256 {
				one := []byte(b)
				one[i] = byte(c)
				ask(string(one))
				ask(b[:i] + string([]byte{byte(c)}) + b[i:])
			}
			ask(b[:i] + b[i+1:])
		}
	}
	if len(seen) < 3000 {
		t.Errorf("only %d were taken", len(seen))
	}
}

// 22.1: hellos and bytes by chance.
func TestByChance(t *testing.T) {
	r := rand.New(rand.NewSource(22))
	x := mac.New()
	for range 60000 {
		h := Hello{Owner: int(r.Uint64() >> r.Intn(64)), Epoch: int(r.Uint64() >> r.Intn(64)), Tag: r.Uint64() >> r.Intn(64)}
		b := put(t, h)
		take(t, b)
		bytes := make([]byte, r.Intn(24))
		for i := range bytes {
			bytes[i] = byte(r.Intn(256))
			if r.Intn(3) == 0 {
				bytes[i] &= 127
			}
		}
		take(t, string(bytes))
		refused(t, x, string(bytes))
		take(t, b+string(bytes))
		if len(b) > 0 {
			other := []byte(b)
			other[r.Intn(len(b))] ^= 1 << r.Intn(8)
			take(t, string(other))
		}
	}
}

// issued is something that a table's Issue told.
type issued struct {
	owner, epoch int
	tag          uint64
}

// body is what the owner brings.
func (l issued) body() string {
	return body(uint64(l.owner), uint64(l.epoch), l.tag)
}

// both are a table, and what was issued by it: all, and what was last and not revoked.
type both struct {
	t   *testing.T
	x   *mac.Table
	d   *dice.Dice
	now map[int]issued
	log []issued
}

func newBoth(t *testing.T) *both {
	return &both{t: t, x: mac.New(), d: dice.New(), now: map[int]issued{}}
}

// issue issues a tag to an owner, by a number.
func (b *both) issue(owner int, n uint64) issued {
	b.t.Helper()
	b.d.Put(n)
	epoch, tag, e := b.x.Issue(owner, b.d)
	if e != api.OK {
		b.t.Fatalf("Issue(%d): %v", owner, e)
	}
	l := issued{owner, epoch, tag}
	b.now[owner] = l
	b.log = append(b.log, l)
	return l
}

func (b *both) revoke(owner int) {
	b.x.Revoke(owner)
	delete(b.now, owner)
}

// verify asks Verify of bytes, and whether the answer is as the words say: only the body of one that was issued last, and not revoked, proves its owner.
func (b *both) verify(bytes string) {
	b.t.Helper()
	want, e := 0, api.ErrAuth
	for owner, l := range b.now {
		if l.body() == bytes {
			want, e = owner, api.OK
		}
	}
	before := *b.x
	owner, err := Verify(b.x, bytes)
	if owner != want || err != e {
		b.t.Fatalf("Verify(%q) = %d, %v, not %d, %v", bytes, owner, err, want, e)
	}
	if *b.x != before {
		b.t.Fatalf("Verify(%q) changed the table", bytes)
	}
}

// around asks for all that is like something that was issued: of other owners, other epochs and other tags, and bytes that are nearly its body.
func (b *both) around(l issued) {
	b.t.Helper()
	whole := l.body()
	b.verify(whole)
	owner, epoch := uint64(l.owner), uint64(l.epoch)
	for _, o := range []uint64{0, 1, 2, 3, 4, 5, 6, 7, 8, 9, 10, 127, 128, 256 + owner, 1<<31 + owner, 1<<32 + owner, 1<<63 + owner, -owner} {
		b.verify(body(o, epoch, l.tag))
	}
	for _, e := range []uint64{0, 1, epoch - 1, epoch + 1, 256 + epoch, 1<<31 + epoch, 1<<32 + epoch, 1<<63 + epoch, -epoch, great} {
		b.verify(body(owner, e, l.tag))
	}
	for _, tag := range []uint64{0, 1, l.tag - 1, l.tag + 1, ^l.tag, l.tag ^ 1<<63, l.tag ^ 1<<32, l.tag & math.MaxUint32, math.MaxUint64} {
		b.verify(body(owner, epoch, tag))
	}
	for k := range len(whole) {
		b.verify(whole[:k])
		b.verify(whole[k:])
	}
	for _, more := range []string{"\x00", "\x01", "\x80", "\xff", whole} {
		b.verify(whole + more)
		b.verify(more + whole)
	}
	b.padded(l)
}

// padded asks for bodies of the same numbers, each of them longer than it need be.
func (b *both) padded(l issued) {
	b.t.Helper()
	n := [3]string{bytesOf(uint64(l.owner)), bytesOf(uint64(l.epoch)), bytesOf(l.tag)}
	for i := range n {
		longer := n
		end := len(n[i]) - 1
		longer[i] = n[i][:end] + string([]byte{n[i][end] | 128, 0})
		refused(b.t, b.x, longer[0]+longer[1]+longer[2])
		longer[i] = n[i][:end] + string([]byte{n[i][end] | 128, 128, 0})
		refused(b.t, b.x, longer[0]+longer[1]+longer[2])
	}
	refused(b.t, b.x, n[0]+n[2]+n[1]+"\x00")
	refused(b.t, b.x, n[0]+n[1])
	refused(b.t, b.x, n[1]+n[2])
}

// all asks for all that was ever issued, and what is like it, and for tags 0.
func (b *both) all() {
	b.t.Helper()
	b.verify("")
	for owner := range uint64(last + 3) {
		for epoch := range uint64(6) {
			b.verify(body(owner, epoch, 0))
			b.verify(body(owner, epoch, 1))
		}
	}
	for _, l := range b.log {
		b.around(l)
	}
}

// quick asks for all that was ever issued, and for each of it with the epoch of now.
func (b *both) quick() {
	b.t.Helper()
	for _, l := range b.log {
		b.verify(l.body())
		b.verify(body(uint64(l.owner), uint64(b.x.Epoch(l.owner)), l.tag))
		b.verify(body(uint64(l.owner), uint64(l.epoch), b.now[l.owner].tag))
		b.verify(body(uint64(l.owner), uint64(l.epoch), 0))
	}
}

// 22.2: a few steps, with all bodies written out.
func TestSteps(t *testing.T) {
	d, x := dice.New(), mac.New()
	issue := func(owner int, n uint64) {
		t.Helper()
		d.Put(n)
		if _, _, e := x.Issue(owner, d); e != api.OK {
			t.Fatal(e)
		}
	}
	const (
		first  = "\x01\x01\xbd\xc8\x9e\xf2\x96\xa5\xbe\x85\xa5\x01"
		second = "\x01\x02\x8a\xcc\x85\xb1\xf0\xaf\xf0\xaa\x50"
		third  = "\x01\x03\xbf\x97\xa7\xaa\xe5\x94\xf3\x8e\x05"
		admin  = "\x00\x01\x9d\xf1\xcd\xa0\xaa\xcf\xd3\x98\xaf\x01"
		eighth = "\x08\x01\xac\xf4\xd3\xe8\xbc\xac\x84\xdf\xef\x01"
	)
	left := []string{first, second, third, admin, eighth}
	only := func(known map[string]int) {
		t.Helper()
		for _, b := range left {
			if owner, ok := known[b]; ok {
				verified(t, x, b, owner)
			} else {
				refused(t, x, b)
			}
		}
	}
	only(nil)
	issue(1, 77)
	only(map[string]int{first: 1})
	issue(1, 78)
	only(map[string]int{second: 1})
	issue(0, 5)
	only(map[string]int{second: 1, admin: 0})
	issue(8, 5)
	only(map[string]int{second: 1, admin: 0, eighth: 8})
	x.Revoke(1)
	only(map[string]int{admin: 0, eighth: 8})
	x.Revoke(0)
	only(map[string]int{eighth: 8})
	issue(1, 12345678901234567890)
	only(map[string]int{third: 1, eighth: 8})
	x.Revoke(8)
	only(map[string]int{third: 1})
}

// 22.2: each owner: who brings its epoch and tag is it, the admin, too; and nobody else is.
func TestOwners(t *testing.T) {
	for owner := range last + 1 {
		b := newBoth(t)
		b.all()
		for i, n := range []uint64{0, 1, 5, 1 << 63, math.MaxUint64} {
			l := b.issue(owner, n)
			if l.epoch != i+1 {
				t.Fatalf("the epoch is %d", l.epoch)
			}
			verified(t, b.x, put(t, Hello{Owner: owner, Epoch: l.epoch, Tag: l.tag}), owner)
			b.all()
		}
		b.revoke(owner)
		b.all()
		b.issue(owner, 9)
		b.all()
	}
}

// 22.2: several owners at a time, some of whom have tags, some not any more, and some never had one.
func TestSeveral(t *testing.T) {
	b := newBoth(t)
	for i, owner := range []int{1, 8, 1, 3, 5, 8, 1, 0, 3, 2} {
		b.issue(owner, uint64(i)*0x9e3779b97f4a7c15)
		b.all()
	}
	b.revoke(3)
	b.all()
	b.revoke(5)
	b.all()
	// Each owner, and each epoch, with the tags of all.
	for _, l := range b.log {
		for _, m := range b.log {
			b.verify(body(uint64(l.owner), uint64(m.epoch), l.tag))
			b.verify(body(uint64(l.owner), uint64(m.epoch), m.tag))
			b.verify(body(uint64(m.owner), uint64(l.epoch), l.tag))
			b.verify(body(uint64(l.owner), uint64(l.epoch), m.tag))
		}
	}
}

// 22.2: epochs of two and of three bytes.
func TestManyEpochs(t *testing.T) {
	b := newBoth(t)
	var ahead issued
	for epoch := 1; epoch <= 16500; epoch++ {
		l := b.issue(epoch&1+7, 3)
		b.log = b.log[:0]
		verified(t, b.x, l.body(), l.owner)
		if epoch > 2 {
			refused(t, b.x, body(uint64(l.owner), uint64(l.epoch-1), l.tag))
		}
		if epoch > 1 {
			verified(t, b.x, ahead.body(), ahead.owner)
		}
		ahead = l
	}
	one := newBoth(t)
	for epoch := 1; epoch <= 16500; epoch++ {
		l := one.issue(0, uint64(epoch))
		if epoch%128 < 2 || epoch%1000 == 999 || epoch > 16380 && epoch < 16390 {
			one.around(l)
			one.around(one.log[0])
			if epoch > 1 {
				one.around(one.log[epoch-2])
			}
			if epoch > 128 {
				one.around(one.log[epoch-129])
			}
		}
	}
}

// 22.2: the tag 1, which is one byte, and one tag of two owners.
func TestSmallTags(t *testing.T) {
	b := newBoth(t)
	for owner := range last + 1 {
		l := b.issue(owner, uint64(256+owner))
		if l.tag != 1 {
			t.Fatalf("the tag is %d", l.tag)
		}
		verified(t, b.x, string([]byte{byte(owner), 1, 1}), owner)
		refused(t, b.x, string([]byte{byte(owner), 1, 0}))
		refused(t, b.x, string([]byte{byte(owner), 0, 1}))
		refused(t, b.x, string([]byte{byte(owner), 2, 1}))
		refused(t, b.x, string([]byte{byte(owner + 1), 1, 1}))
		b.all()
	}
	for owner := range last + 1 {
		b.revoke(owner)
		refused(t, b.x, string([]byte{byte(owner), 1, 1}))
		refused(t, b.x, string([]byte{byte(owner), 1, 0}))
		b.all()
	}
}

// 22.2: all that is wrong has one answer, and one owner beside it.
func TestOneAnswer(t *testing.T) {
	b := newBoth(t)
	earlier := b.issue(4, 1)
	now := b.issue(4, 2)
	gone := b.issue(5, 3)
	other := b.issue(6, 4)
	b.revoke(5)
	wrong := []string{
		body(9, 1, now.tag), body(great, 2, now.tag), body(260, 2, now.tag), // an owner above MaxTenants
		body(1, 0, 0), body(1, 1, 0), body(1, 1, 5), body(0, 1, now.tag), // nothing was issued
		earlier.body(), body(4, 2, earlier.tag), body(4, 1, now.tag), // an earlier tag, an earlier epoch
		gone.body(), body(5, 1, 0), body(5, 0, 0), body(5, 2, gone.tag), // revoked
		body(4, 2, other.tag), body(6, 1, now.tag), body(4, 1, other.tag), // another owner's tag
		body(4, 2, 0), body(6, 1, 0), // tag 0
		"", "\x04", "\x04\x02", "\x80\x00\x02\x01", now.body() + "\x00", now.body()[:5], "\xff\xff\xff", body(1<<31, 1, 1), body(4, 1<<31, 1), // no body
	}
	var zero mac.Table
	for _, w := range wrong {
		refused(t, b.x, w)
		refused(t, nil, w)
		refused(t, &zero, w)
		refused(t, mac.New(), w)
		b.verify(w)
	}
	verified(t, b.x, now.body(), 4)
	verified(t, b.x, other.body(), 6)
}

// 22.2: a table that is nil, and one that no call made, know nobody; of the latter one a tag may be issued.
func TestNoTable(t *testing.T) {
	var zero mac.Table
	made := newBoth(t)
	for owner := range last + 1 {
		made.issue(owner, uint64(owner))
	}
	for _, l := range append(made.log, issued{}, issued{0, 0, 1}, issued{1, 0, 0}, issued{0, 1, 0}) {
		refused(t, nil, l.body())
		refused(t, &zero, l.body())
	}
	for _, b := range bodies() {
		refused(t, nil, b)
		refused(t, &zero, b)
	}
	if zero != *mac.New() {
		t.Error("Verify changed the table")
	}
	d := dice.New()
	d.Put(256 + 3)
	zero.Issue(3, d)
	verified(t, &zero, "\x03\x01\x01", 3)
	refused(t, nil, "\x03\x01\x01")
}

// 22.2: two tables: who is known to one of them is not to the other.
func TestTwoTables(t *testing.T) {
	b, c := newBoth(t), newBoth(t)
	for i := range 30 {
		l := b.issue(i%(last+1), uint64(i))
		c.verify(l.body())
		m := c.issue(i%4, uint64(i+100))
		b.verify(m.body())
		b.all()
		c.all()
	}
}

// 22.3: all short rows of steps of two owners.
func TestAllShortSteps(t *testing.T) {
	const steps, kinds = 5, 5
	for _, pair := range [][2]int{{0, 1}, {1, 8}, {8, 0}} {
		rows := 1
		for range steps {
			rows *= kinds
		}
		for row := range rows {
			b := newBoth(t)
			for i := range steps {
				switch row % kinds {
				case 0:
					b.issue(pair[0], uint64(i))
				case 1:
					b.issue(pair[1], uint64(i))
				case 2:
					b.revoke(pair[0])
				case 3:
					b.revoke(pair[1])
				case 4:
					// The tag 1, whatever the epoch is.
					b.issue(pair[0], uint64(256*(b.x.Epoch(pair[0])+1)+pair[0]))
				}
				row /= kinds
				b.quick()
			}
		}
	}
}

// 22.3: steps by chance, of all owners.
func TestStepsByChance(t *testing.T) {
	r := rand.New(rand.NewSource(2203))
	for range 60 {
		b := newBoth(t)
		share := 2 + r.Intn(7)
		for range 40 {
			owner := r.Intn(last + 1)
			if r.Intn(10) >= share {
				b.revoke(owner)
			} else {
				b.issue(owner, []uint64{r.Uint64(), uint64(r.Intn(2600)), uint64(256*(b.x.Epoch(owner)+1) + owner)}[r.Intn(3)])
			}
			b.quick()
			if len(b.log) > 0 {
				b.around(b.log[r.Intn(len(b.log))])
			}
		}
		b.all()
	}
}

// R4: what is put and what is taken share nothing with what comes behind it.
func TestOwnMemory(t *testing.T) {
	h := Hello{Owner: 300, Epoch: 400, Tag: 500}
	b, _ := Put(h)
	other, _ := Put(Hello{Owner: 301, Epoch: 401, Tag: 501})
	if b != "\xac\x02\x90\x03\xf4\x03" || other != "\xad\x02\x91\x03\xf5\x03" {
		t.Errorf("Put = %q, %q", b, other)
	}
	got, _ := Take(b)
	got.Owner++
	if again, _ := Take(b); again != h {
		t.Errorf("Take = %v", again)
	}
}

// R5: the same answers each time, in whatever order it is asked.
func TestAgain(t *testing.T) {
	b := newBoth(t)
	b.issue(4, 9)
	b.issue(5, 10)
	for range 3 {
		for i := range rows() {
			for _, r := range []row{rows()[i], rows()[len(rows())-1-i]} {
				put(t, Hello{Owner: r.owner, Epoch: r.epoch, Tag: r.tag})
				take(t, r.body)
				take(t, r.body+"\x00")
				put(t, Hello{Owner: -1})
				b.verify(r.body)
			}
		}
		b.all()
	}
}

// R5: bodies asked by many at one time, of one table, which Verify only reads.
func TestAtOnce(t *testing.T) {
	b := newBoth(t)
	for owner := range last + 1 {
		b.issue(owner, uint64(owner)<<40)
	}
	var w sync.WaitGroup
	wrong := make([]int, 8)
	for g := range wrong {
		w.Go(func() {
			for i := range 500 {
				l := b.log[(g+i)%len(b.log)]
				if o, e := Verify(b.x, l.body()); o != l.owner || e != api.OK {
					wrong[g]++
				}
				if o, e := Verify(b.x, l.body()+"\x01"); o != 0 || e != api.ErrAuth {
					wrong[g]++
				}
				h := Hello{Owner: g * i, Epoch: i, Tag: uint64(i) << (8 * g)}
				bytes, _ := Put(h)
				if got, e := Take(bytes); got != h || e != api.OK {
					wrong[g]++
				}
			}
		})
	}
	w.Wait()
	for g, n := range wrong {
		if n != 0 {
			t.Errorf("%d answers of number %d were wrong", n, g)
		}
	}
}

func FuzzHello(f *testing.F) {
	for _, r := range append(rows(), tooGreat()...) {
		f.Add(r.owner, r.epoch, r.tag, r.body)
	}
	f.Add(-1, 0, uint64(0), "")
	f.Add(4, 1, uint64(7), "\x80\x00\x01\x01")
	f.Fuzz(func(t *testing.T, owner, epoch int, tag uint64, bytes string) {
		h := Hello{Owner: owner, Epoch: epoch, Tag: tag}
		b := put(t, h)
		take(t, b)
		if h, e := take(t, bytes); e == api.OK && put(t, h) != bytes {
			t.Fatalf("%q is not the body of what is taken of it, %v", bytes, h)
		}
		x := newBoth(t)
		x.issue(4, tag)
		x.verify(b)
		x.verify(bytes)
		x.all()
	})
}
