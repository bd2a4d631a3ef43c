package dice

import (
	"math"
	"math/big"
	"math/rand"
	"slices"
	"sync"
	"testing"
)

// full is how many numbers dice keep, by the chapter's words.
const full = 64

// both are dice, and the chapter's words of them: a list of the numbers that are left, the first one ahead.
type both struct {
	t *testing.T
	d *Dice
	l []uint64
}

func newBoth(t *testing.T) *both {
	return &both{t: t, d: New()}
}

// put puts a number in, and asks whether what is answered is as the list says.
func (b *both) put(n uint64) {
	b.t.Helper()
	room := len(b.l) < full
	if ok := b.d.Put(n); ok != room {
		b.t.Fatalf("Put(%d) beside %d others = %v", n, len(b.l), ok)
	}
	if room {
		b.l = append(b.l, n)
	}
	b.left()
}

// take takes a number, and asks whether it is as the list says.
func (b *both) take() {
	b.t.Helper()
	var want uint64
	some := len(b.l) > 0
	if some {
		want, b.l = b.l[0], b.l[1:]
	}
	if n, ok := b.d.Take(); n != want || ok != some {
		b.t.Fatalf("Take() = %d, %v, not %d, %v", n, ok, want, some)
	}
	b.left()
}

func (b *both) left() {
	b.t.Helper()
	if n := b.d.Left(); n != len(b.l) {
		b.t.Fatalf("Left() = %d, not %d", n, len(b.l))
	}
}

// drain takes all that is left, and one more.
func (b *both) drain() {
	b.t.Helper()
	for len(b.l) > 0 {
		b.take()
	}
	b.take()
}

// numbers are n of them, all different, of all 64 bits.
func numbers(n int) []uint64 {
	l := make([]uint64, n)
	for i := range l {
		l[i] = uint64(i+1) * 0x9e3779b97f4a7c15
	}
	return l
}

// turned are dice without numbers, from which n were taken, so that the ring begins n places on.
func turned(t *testing.T, n int) *both {
	b := newBoth(t)
	for i := range n {
		b.put(uint64(1000 + i))
		b.take()
	}
	return b
}

// 20.1: the answers of a few steps, written out.
func TestSteps(t *testing.T) {
	d := New()
	if n, ok := d.Take(); n != 0 || ok {
		t.Fatalf("Take() of New() = %d, %v", n, ok)
	}
	if n := d.Left(); n != 0 {
		t.Fatalf("Left() of New() = %d", n)
	}
	for i, n := range []uint64{5, 9, 5} {
		if !d.Put(n) || d.Left() != i+1 {
			t.Fatalf("Put(%d): %d are left", n, d.Left())
		}
	}
	for i, want := range []uint64{5, 9, 5} {
		if n, ok := d.Take(); n != want || !ok || d.Left() != 2-i {
			t.Fatalf("Take() = %d, %v, and %d are left", n, ok, d.Left())
		}
	}
	for range 3 {
		if n, ok := d.Take(); n != 0 || ok || d.Left() != 0 {
			t.Fatalf("Take() of empty dice = %d, %v, and %d are left", n, ok, d.Left())
		}
	}
	if !d.Put(7) || d.Left() != 1 {
		t.Fatal("empty dice take no number any more")
	}
	if n, ok := d.Take(); n != 7 || !ok || d.Left() != 0 {
		t.Fatalf("Take() = %d, %v, and %d are left", n, ok, d.Left())
	}
}

// 20.1: 0 to 130 numbers put in, and then taken: the first 64 of them are told, the others are dropped.
func TestFull(t *testing.T) {
	for size := range 131 {
		d := New()
		l := numbers(size)
		for i, n := range l {
			if ok := d.Put(n); ok != (i < 64) {
				t.Fatalf("Put of number %d = %v", i, ok)
			}
			if d.Left() != min(i+1, 64) {
				t.Fatalf("%d are left behind number %d", d.Left(), i)
			}
		}
		kept := min(size, 64)
		for i := range kept {
			if n, ok := d.Take(); n != l[i] || !ok {
				t.Fatalf("of %d: Take() number %d = %d, %v, not %d", size, i, n, ok, l[i])
			}
			if d.Left() != kept-1-i {
				t.Fatalf("of %d: %d are left behind %d", size, d.Left(), i+1)
			}
		}
		if n, ok := d.Take(); n != 0 || ok || d.Left() != 0 {
			t.Fatalf("of %d: one more = %d, %v", size, n, ok)
		}
	}
}

// 20.1: 63, 64 and 65 numbers, with the ring's beginning at each of its places, and more than once round.
func TestFullTurned(t *testing.T) {
	for from := range 3*full + 1 {
		for _, size := range []int{1, 2, 63, 64, 65} {
			b := turned(t, from)
			for _, n := range numbers(size) {
				b.put(n)
			}
			b.drain()
		}
	}
}

// 20.1: a number behind one that was refused, and one that was taken, stands last; the one that was refused never comes.
func TestBehindRefused(t *testing.T) {
	const refused, late = 1 << 40, 1 << 50
	for from := range full {
		for many := 1; many <= 3; many++ {
			b := turned(t, from)
			for _, n := range numbers(full) {
				b.put(n)
			}
			for i := range many {
				b.put(refused + uint64(i))
			}
			b.take()
			b.put(late)
			b.put(refused)
			want := append(numbers(full)[1:], late)
			if !slices.Equal(b.l, want) {
				t.Fatal("the list is wrong")
			}
			b.drain()
		}
	}
}

// 20.1, R2: what is refused changes nothing: dice into which it was put, and dice into which it was not, answer the same.
func TestRefusedChangesNothing(t *testing.T) {
	for from := range full {
		b, c := turned(t, from), turned(t, from)
		for _, n := range numbers(full) {
			b.put(n)
			c.put(n)
		}
		for round := range 2 * full {
			for _, n := range []uint64{0, 1, 1000, math.MaxUint64} {
				if b.d.Put(n) {
					t.Fatal("full dice took a number")
				}
			}
			if b.d.Left() != c.d.Left() {
				t.Fatalf("%d are left, not %d", b.d.Left(), c.d.Left())
			}
			b.take()
			c.take()
			b.put(uint64(round))
			c.put(uint64(round))
		}
		b.drain()
		c.drain()
	}
}

// 20.1: a take of empty dice changes nothing, with the ring's beginning at each of its places.
func TestEmptyChangesNothing(t *testing.T) {
	for from := range full + 1 {
		b := turned(t, from)
		for range from + 2 {
			b.take()
		}
		for _, n := range numbers(full + 1) {
			b.put(n)
		}
		b.drain()
		b.take()
		b.put(3)
		b.drain()
	}
}

// 20.3: numbers put in and taken by turns, some at a time, so that the ring goes round more than once.
func TestByTurns(t *testing.T) {
	for puts := range 9 {
		for takes := range 9 {
			b := newBoth(t)
			next := uint64(1)
			for range 100 {
				for range puts {
					b.put(next)
					next++
				}
				for range takes {
					b.take()
				}
			}
			b.drain()
		}
	}
}

// 20.3: one number ahead of many others, taken with each number of others behind it, round the ring.
func TestWindow(t *testing.T) {
	for kept := range full + 1 {
		b := newBoth(t)
		next := uint64(1)
		for range kept {
			b.put(next)
			next++
		}
		for range 3 * full {
			b.put(next)
			b.take()
			next++
		}
		for range 3 * full {
			b.take()
			b.put(next)
			next++
		}
		b.drain()
	}
}

// 20.3: all short rows of steps, from each place of the ring on, with few numbers left and with many.
func TestAllShortSteps(t *testing.T) {
	const steps = 6
	for _, from := range []int{0, 1, 31, 58, 59, 60, 61, 62, 63} {
		for _, kept := range []int{0, 1, 2, 3, 32, 60, 61, 62, 63, 64} {
			for row := range 1 << steps {
				b := turned(t, from)
				for _, n := range numbers(kept) {
					b.put(n)
				}
				for i := range steps {
					if row>>i&1 == 0 {
						b.put(uint64(i))
					} else {
						b.take()
					}
				}
				b.drain()
			}
		}
	}
}

// 20.1: numbers of all 64 bits, 0 and the greatest among them, and each number twice, one behind the other and with others between.
func TestAllBits(t *testing.T) {
	l := []uint64{0, 1, 2, 255, 256, math.MaxUint64, math.MaxUint64 - 1, math.MaxInt64, math.MaxInt64 + 1, math.MaxUint32, math.MaxUint32 + 1, 1<<53 + 1}
	for i := range 64 {
		l = append(l, 1<<i, 1<<i-1, ^uint64(1<<i))
	}
	b := newBoth(t)
	for _, n := range l {
		b.put(n)
		b.put(n)
		b.take()
		b.take()
	}
	for _, n := range l {
		b.put(n)
		b.put(0)
		b.put(n)
		b.take()
		b.take()
		b.take()
	}
	for i := 0; i < len(l); i += full / 2 {
		piece := l[i:min(i+full/2, len(l))]
		for range 2 {
			for _, n := range piece {
				b.put(n)
			}
		}
		b.drain()
	}
}

// 20.1: dice of one number again and again: each stands for itself.
func TestSameNumber(t *testing.T) {
	for _, n := range []uint64{0, 1, 64, math.MaxUint64} {
		b := newBoth(t)
		for range full + 2 {
			b.put(n)
		}
		for range 2 * full {
			b.take()
			b.take()
			b.put(n)
		}
		b.drain()
	}
}

// 20.1: dice that are nil answer false, 0, and stay so.
func TestNil(t *testing.T) {
	var d *Dice
	for _, n := range []uint64{0, 1, math.MaxUint64} {
		if d.Put(n) {
			t.Errorf("Put(%d) of nil", n)
		}
		if m, ok := d.Take(); m != 0 || ok {
			t.Errorf("Take() of nil = %d, %v", m, ok)
		}
		if d.Left() != 0 {
			t.Errorf("Left() of nil = %d", d.Left())
		}
	}
}

// 20.1: dice that no call made are as New's, however they come to be.
func TestNotMade(t *testing.T) {
	var one Dice
	var row [2]Dice
	var within struct {
		ahead  int
		d      Dice
		behind int
	}
	for i, d := range []*Dice{&one, {}, new(Dice), &row[0], &row[1], &within.d} {
		if n, ok := d.Take(); n != 0 || ok || d.Left() != 0 {
			t.Errorf("%d: Take() = %d, %v, and %d are left", i, n, ok, d.Left())
		}
		b := &both{t: t, d: d}
		b.left()
		for _, n := range numbers(full + 2) {
			b.put(n + uint64(i))
		}
		for range 2 * full {
			b.take()
			b.put(uint64(i))
		}
		b.drain()
	}
	if within.ahead != 0 || within.behind != 0 {
		t.Error("what stands beside dice was changed")
	}
}

// R5: dice that were used, and are empty again, answer as new ones.
func TestUsedAsNew(t *testing.T) {
	b := newBoth(t)
	for round := range 2*full + 1 {
		for _, n := range numbers(round % (full + 2)) {
			b.put(n)
		}
		b.drain()
		c := &both{t: t, d: New()}
		for i := range full + 1 {
			b.put(uint64(i))
			c.put(uint64(i))
		}
		b.drain()
		c.drain()
	}
}

// 20.3: many dice, by turns: none has to do with another.
func TestApart(t *testing.T) {
	r := rand.New(rand.NewSource(20))
	var l []*both
	for range 10 {
		l = append(l, newBoth(t))
	}
	for i := range 20000 {
		b := l[r.Intn(len(l))]
		if r.Intn(5) < 2 {
			b.take()
		} else {
			b.put(uint64(i))
		}
		for _, x := range l {
			x.left()
		}
	}
	for _, b := range l {
		b.drain()
	}
}

// 20.3: two dice with the same numbers: what is done to one is not seen of the other.
func TestTwo(t *testing.T) {
	b, c := newBoth(t), newBoth(t)
	for _, n := range numbers(full) {
		b.put(n)
		c.put(n)
	}
	b.drain()
	c.left()
	for i := range full {
		b.put(uint64(i))
	}
	c.drain()
	b.drain()
	if New() == New() {
		t.Error("New tells the same dice twice")
	}
}

// R5: dice used at one time by many: each has its own alone.
func TestAtOnce(t *testing.T) {
	var w sync.WaitGroup
	wrong := make([]bool, 8)
	for g := range wrong {
		w.Go(func() {
			d := New()
			for i := range uint64(2000) {
				n := i<<8 | uint64(g)
				d.Put(n)
				m, ok := d.Take()
				wrong[g] = wrong[g] || m != n || !ok || Mix(n, m) != 0
			}
		})
	}
	w.Wait()
	if slices.Contains(wrong, true) {
		t.Errorf("wrong: %v", wrong)
	}
}

// 20.3: steps by chance, with more puts, as many, and fewer than takes.
func TestByChance(t *testing.T) {
	r := rand.New(rand.NewSource(64))
	seen := map[int]bool{}
	for range 200 {
		b := newBoth(t)
		share := 20 + r.Intn(61)
		for range 600 {
			if r.Intn(100) < share {
				b.put([]uint64{r.Uint64(), r.Uint64() % 4}[r.Intn(2)])
			} else {
				b.take()
			}
			seen[len(b.l)] = true
		}
		b.drain()
	}
	if len(seen) != full+1 {
		t.Errorf("%d counts of numbers were seen", len(seen))
	}
}

// What was taken is kept no more, and what was refused never was.
func TestNothingKept(t *testing.T) {
	d := New()
	for range 3 {
		for _, n := range numbers(full + 5) {
			d.Put(n)
		}
		for range 40 {
			d.Take()
		}
		kept := map[uint64]int{}
		for _, n := range d.ring {
			kept[n]++
		}
		if kept[0] != 40 {
			t.Errorf("%d places of the ring are free, not 40", kept[0])
		}
		for d.Left() > 0 {
			d.Take()
		}
	}
	for i, n := range d.ring {
		if n != 0 {
			t.Errorf("empty dice keep %d at place %d", n, i)
		}
	}
}

// words is Mix by the chapter's words, in numbers without bounds.
func words(a, b uint64) uint64 {
	number := func(n uint64) *big.Int { return new(big.Int).SetUint64(n) }
	whole := new(big.Int).Lsh(big.NewInt(1), 64)
	xor := func(x *big.Int, power uint) *big.Int {
		q := new(big.Int).Quo(x, new(big.Int).Exp(big.NewInt(2), big.NewInt(int64(power)), nil))
		return q.Xor(x, q)
	}
	x := new(big.Int).Xor(number(a), number(b))
	x.Mul(x, number(11400714819323198485)).Mod(x, whole)
	x = xor(x, 29)
	x.Mul(x, number(13787848793156543929)).Mod(x, whole)
	return xor(x, 32).Uint64()
}

// mixes asks whether Mix of two numbers, in both orders, is as it should be.
func mixes(t *testing.T, a, b, want uint64) {
	t.Helper()
	if x := Mix(a, b); x != want {
		t.Fatalf("Mix(%d, %d) = %d, not %d", a, b, x, want)
	}
	if x := Mix(b, a); x != want {
		t.Fatalf("Mix(%d, %d) = %d, not %d", b, a, x, want)
	}
}

// great and small numbers, and those at the edges of their bits.
func edges() []uint64 {
	l := []uint64{0, 1, 2, 3, 5, 7, 9, 257, 1000, math.MaxUint64, math.MaxUint64 - 1, math.MaxInt64, 0x5555555555555555, 0xaaaaaaaaaaaaaaaa, 11400714819323198485, 13787848793156543929, 17428512612931826493}
	for i := range 64 {
		l = append(l, 1<<i, 1<<i+1, 1<<i-1, ^uint64(1<<i))
	}
	return l
}

// The chapter's example, and the ones of the whole: Mix(5, 257) is a tag.
func TestMixExample(t *testing.T) {
	mixes(t, 0, 0, 0)
	mixes(t, 5, 257, 16584132540284586915)
}

// 20.2: answers that were worked out apart.
func TestMixRows(t *testing.T) {
	rows := [][3]uint64{
		{0, 1, 14555800124870461561},
		{1, 2, 16911393301962544615},
		{1, 3, 7796372880487179078},
		{5, 9, 14984987228759253350},
		{7, 0, 7145241646666111851},
		{7, 256, 16331991823578158845},
		{1 << 29, 0, 11453525641953373390},
		{1 << 32, 0, 1184896773571885118},
		{1<<32 - 1, 0, 8339774333369775918},
		{1 << 32, 1, 10882975604987810064},
		{1 << 63, 0, 17551538082876200676},
		{1 << 63, 1, 15451006119447633757},
		{1<<63 - 1, 0, 12892959010383132879},
		{math.MaxUint64, 0, 11997753015133180395},
		{math.MaxUint64, 1, 5548761952261841878},
		{math.MaxUint64, math.MaxUint64 - 1, 14555800124870461561},
		{math.MaxUint64, 1 << 63, 12892959010383132879},
		{math.MaxUint64, math.MaxUint64, 0},
		{12345678901234567890, 9876543210, 4663350697315986924},
		{0x5555555555555555, 0xaaaaaaaaaaaaaaaa, 11997753015133180395},
		{11400714819323198485, 0, 5265399081299004902},
		{13787848793156543929, 11400714819323198485, 54836070817418274},
		{14029467366897019727, 0, 5372602046897381583},
	}
	for _, x := range rows {
		mixes(t, x[0], x[1], x[2])
		if n := words(x[0], x[1]); n != x[2] {
			t.Errorf("the model tells %d of %d and %d", n, x[0], x[1])
		}
	}
}

// 20.2: all pairs of small and great numbers, in both orders.
func TestMixEdges(t *testing.T) {
	l := edges()
	for i, a := range l {
		for _, b := range l[:i+1] {
			mixes(t, a, b, words(a, b))
		}
	}
}

// 20.2: a number and itself are 0; no others are.
func TestMixSame(t *testing.T) {
	for _, a := range edges() {
		mixes(t, a, a, 0)
		for _, b := range edges() {
			if a != b && Mix(a, b) == 0 {
				t.Errorf("Mix(%d, %d) = 0", a, b)
			}
		}
	}
}

// 20.2: pairs that have one xor have one answer; those of another xor another one.
func TestMixXor(t *testing.T) {
	seen := map[uint64]uint64{}
	for _, x := range edges() {
		want := words(x, 0)
		if other, ok := seen[want]; ok && other != x {
			t.Errorf("%d and %d have one answer", x, other)
		}
		seen[want] = x
		for _, a := range edges() {
			mixes(t, a, a^x, want)
		}
	}
}

// 20.2: numbers by chance, of any count of bits.
func TestMixByChance(t *testing.T) {
	r := rand.New(rand.NewSource(2))
	for range 50000 {
		a, b := r.Uint64()>>r.Intn(64), r.Uint64()>>r.Intn(64)
		mixes(t, a, b, words(a, b))
	}
}

// R5: what is mixed hangs on the two numbers alone, whatever dice there are.
func TestMixAgain(t *testing.T) {
	b := newBoth(t)
	for i := range uint64(2 * full) {
		b.put(i)
		mixes(t, 5, 9, 14984987228759253350)
		mixes(t, i, 9, words(i, 9))
	}
	b.drain()
	mixes(t, 5, 9, 14984987228759253350)
}

func FuzzDice(f *testing.F) {
	f.Add("", uint64(0), uint64(0))
	f.Add("pptt", uint64(5), uint64(257))
	f.Add("tptpp", uint64(math.MaxUint64), uint64(1))
	f.Fuzz(func(t *testing.T, steps string, a, c uint64) {
		b := newBoth(t)
		for i := range len(steps) {
			// More puts than takes, so that they come to be full.
			if steps[i]%8 < 5 {
				b.put(a + c*uint64(i))
			} else {
				b.take()
			}
		}
		b.drain()
		mixes(t, a, c, words(a, c))
	})
}
