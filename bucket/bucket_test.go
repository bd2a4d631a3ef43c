package bucket

import (
	"math"
	"math/big"
	"math/rand"
	"testing"

	"concourse/api"
)

// most is the greatest number of a configuration, and mostOfWait the greatest one that Wait counts, by the chapter's words.
const (
	most       = 1048576
	mostOfWait = 1099511627776
)

// edges are numbers about the bounds of a rate and of a burst, some whose last bits alone are within them, and those about the bounds of an int.
func edges() []int {
	return []int{
		math.MinInt, math.MinInt + 1, -mostOfWait, -1<<32 + 5, -1 << 32, -1 << 31, -most - 1, -most, -2, -1,
		0, 1, 2, 3, most/2 - 1, most / 2, most/2 + 1, most - 2, most - 1,
		most, most + 1, most + 2, 2 * most, 1 << 30, 1 << 31, 1 << 32, 1<<32 + 5, mostOfWait, math.MaxInt - 1, math.MaxInt,
	}
}

// inBounds is what a number counts as.
func inBounds(n int) int {
	if n < 0 {
		return 0
	}
	if n > most {
		return most
	}
	return n
}

// counted is a bucket by the chapter's words: at a tick its tokens come one by one.
type counted struct {
	rate, burst, tokens int
}

func newCounted(rate, burst int) counted {
	return counted{inBounds(rate), inBounds(burst), inBounds(burst)}
}

func (c *counted) tick() {
	for range c.rate {
		if c.tokens == c.burst {
			return
		}
		c.tokens++
	}
}

func (c *counted) take(n int) api.Errno {
	if n < 0 {
		return api.ErrForm
	}
	if c.tokens < n {
		return api.ErrQuota
	}
	c.tokens -= n
	return api.OK
}

func (c *counted) set(rate, burst int) {
	c.rate, c.burst = inBounds(rate), inBounds(burst)
	if c.tokens > c.burst {
		c.tokens = c.burst
	}
}

// moment is a time in a row of steps: what the ticks brought and what was taken up to it, and the burst then.
type moment struct {
	brought, taken, burst int
}

// both are a bucket, what is counted of it apart, and the moments ahead of the first step and behind each.
type both struct {
	t   *testing.T
	b   *Bucket
	c   counted
	log []moment
}

func newBoth(t *testing.T, rate, burst int) *both {
	t.Helper()
	return of(t, New(rate, burst), newCounted(rate, burst))
}

func of(t *testing.T, b *Bucket, c counted) *both {
	t.Helper()
	x := &both{t: t, b: b, c: c, log: []moment{{0, 0, c.burst}}}
	x.same()
	return x
}

// left is how many tokens may be taken by 23.3, with each moment's burst: no time that ends now lets more be.
func (x *both) left() int {
	now := x.log[len(x.log)-1]
	l := math.MaxInt
	for _, m := range x.log {
		l = min(l, m.burst+now.brought-m.brought-(now.taken-m.taken))
	}
	return l
}

// same asks whether the bucket has as many tokens as were counted, and as the moments let it have.
func (x *both) same() {
	x.t.Helper()
	n := x.b.Tokens()
	if n != x.c.tokens || n != x.left() {
		x.t.Fatalf("%d tokens; %d were counted, and %d may be taken (rate %d, burst %d, %d steps)", n, x.c.tokens, x.left(), x.c.rate, x.c.burst, len(x.log)-1)
	}
	if n < 0 || n > x.c.burst {
		x.t.Fatalf("%d tokens, of a burst of %d", n, x.c.burst)
	}
}

// behind keeps the moment behind a step.
func (x *both) behind(brought, taken int) {
	x.t.Helper()
	now := x.log[len(x.log)-1]
	x.log = append(x.log, moment{now.brought + brought, now.taken + taken, x.c.burst})
	x.same()
}

func (x *both) tick() {
	x.t.Helper()
	x.b.Tick()
	x.c.tick()
	x.behind(x.c.rate, 0)
}

func (x *both) set(rate, burst int) {
	x.t.Helper()
	x.b.Set(rate, burst)
	x.c.set(rate, burst)
	x.behind(0, 0)
}

// take takes tokens, and asks whether the answer is as the words say, and what is refused changes nothing.
func (x *both) take(n int) api.Errno {
	x.t.Helper()
	ahead, left := *x.b, x.left()
	want := x.c.take(n)
	got := x.b.Take(n)
	if got != want {
		x.t.Fatalf("Take(%d) = %v, not %v, of %d tokens", n, got, want, ahead.tokens)
	}
	if (got == api.ErrQuota) != (n > left) {
		x.t.Fatalf("Take(%d) = %v, where %d may be taken", n, got, left)
	}
	taken := n
	if got != api.OK {
		taken = 0
		if *x.b != ahead {
			x.t.Fatalf("Take(%d) = %v made %v of %v", n, got, *x.b, ahead)
		}
	}
	x.behind(0, taken)
	return got
}

// refused asks for all that is refused, and that it changes nothing.
func (x *both) refused() {
	x.t.Helper()
	for _, n := range []int{-1, -2, -most, -x.c.tokens, -x.c.tokens - 1, -1 << 32, math.MinInt, math.MinInt + 1} {
		if n < 0 && x.take(n) != api.ErrForm {
			x.t.Fatalf("Take(%d) is not refused", n)
		}
	}
	for _, n := range []int{1, 2, 1000, most, 1<<31 - x.c.tokens, 1<<32 - x.c.tokens, mostOfWait, math.MaxInt - x.c.tokens} {
		if x.take(x.c.tokens+n) != api.ErrQuota {
			x.t.Fatalf("Take(%d) is not refused", x.c.tokens+n)
		}
	}
}

// all takes all tokens, by a few steps, and asks whether none is left then.
func (x *both) all() {
	x.t.Helper()
	x.take(x.c.tokens + 1)
	x.take(x.c.tokens / 2)
	x.take(x.c.tokens)
	x.take(1)
	x.take(0)
	if n := x.b.Tokens(); n != 0 {
		x.t.Fatalf("%d tokens are left of all", n)
	}
}

// The chapter's example: of rate 2, burst 5: take 4, tick: 3.
func TestExample(t *testing.T) {
	b := New(2, 5)
	if e := b.Take(4); e != api.OK {
		t.Fatalf("Take(4) = %v", e)
	}
	b.Tick()
	if n := b.Tokens(); n != 3 {
		t.Fatalf("%d tokens", n)
	}
}

// 23.1: the bound is the one that api names.
func TestMostConf(t *testing.T) {
	if api.MaxConf != most {
		t.Fatalf("MaxConf is %d", api.MaxConf)
	}
}

// 23.1: a row of all steps, with all answers written out.
func TestSteps(t *testing.T) {
	b := New(3, 10)
	tick := func(want int) {
		t.Helper()
		b.Tick()
		if n := b.Tokens(); n != want {
			t.Fatalf("%d tokens behind a tick, not %d", n, want)
		}
	}
	take := func(n int, e api.Errno, want int) {
		t.Helper()
		if got := b.Take(n); got != e || b.Tokens() != want {
			t.Fatalf("Take(%d) = %v, and %d tokens, not %v, %d", n, got, b.Tokens(), e, want)
		}
	}
	set := func(rate, burst, want int) {
		t.Helper()
		b.Set(rate, burst)
		if n := b.Tokens(); n != want {
			t.Fatalf("%d tokens behind Set(%d, %d), not %d", n, rate, burst, want)
		}
	}
	take(0, api.OK, 10)
	take(11, api.ErrQuota, 10)
	take(-1, api.ErrForm, 10)
	take(10, api.OK, 0)
	take(1, api.ErrQuota, 0)
	take(0, api.OK, 0)
	take(-1, api.ErrForm, 0)
	tick(3)
	tick(6)
	take(7, api.ErrQuota, 6)
	take(5, api.OK, 1)
	tick(4)
	tick(7)
	tick(10)
	tick(10)
	take(1, api.OK, 9)
	tick(10)
	set(1, 4, 4)
	take(5, api.ErrQuota, 4)
	set(1, 50, 4)
	tick(5)
	set(100, 50, 5)
	tick(50)
	take(50, api.OK, 0)
	tick(50)
	set(0, 50, 50)
	take(20, api.OK, 30)
	tick(30)
	set(7, 0, 0)
	tick(0)
	take(1, api.ErrQuota, 0)
	take(0, api.OK, 0)
	set(-1, 1<<30, 0)
	tick(0)
	set(1<<30, 1<<30, 0)
	tick(1048576)
	take(1048577, api.ErrQuota, 1048576)
	take(1048576, api.OK, 0)
	set(1<<30, -1, 0)
	tick(0)
}

// 23.1: each rate with each burst, in New.
func TestNew(t *testing.T) {
	for _, rate := range edges() {
		for _, burst := range edges() {
			x := newBoth(t, rate, burst)
			if n := x.b.Tokens(); n != inBounds(burst) {
				t.Fatalf("New(%d, %d) has %d tokens", rate, burst, n)
			}
			x.tick()
			x.all()
			x.tick()
			x.tick()
			x.refused()
			x.all()
			x.tick()
		}
	}
	if New(1, 2) == New(1, 2) {
		t.Error("New tells the same bucket twice")
	}
}

// 23.1: rates and bursts beyond their bounds, each by itself, with the tokens written out.
func TestNewBounds(t *testing.T) {
	rows := []struct {
		rate, burst int
		full, tick  int // the tokens at first, and those of an empty bucket behind a tick
	}{
		{0, 0, 0, 0}, {1, 0, 0, 0}, {0, 1, 1, 0}, {1, 1, 1, 1}, {2, 1, 1, 1}, {1, 2, 2, 1},
		{-1, 5, 5, 0}, {5, -1, 0, 0}, {-1, -1, 0, 0},
		{math.MinInt, 5, 5, 0}, {5, math.MinInt, 0, 0}, {math.MinInt, math.MinInt, 0, 0},
		{3, 1048575, 1048575, 3}, {3, 1048576, 1048576, 3}, {3, 1048577, 1048576, 3}, {3, math.MaxInt, 1048576, 3},
		{1048575, 1 << 30, 1048576, 1048575}, {1048576, 1 << 30, 1048576, 1048576}, {1048577, 1 << 30, 1048576, 1048576}, {math.MaxInt, 1 << 30, 1048576, 1048576},
		{1048575, 1048575, 1048575, 1048575}, {1048576, 1048575, 1048575, 1048575}, {math.MaxInt, 7, 7, 7},
		{math.MinInt, math.MaxInt, 1048576, 0}, {math.MaxInt, math.MinInt, 0, 0}, {1 << 32, 1<<32 + 5, 1048576, 1048576}, {-1<<32 + 5, 9, 9, 0},
	}
	for _, r := range rows {
		b := New(r.rate, r.burst)
		if n := b.Tokens(); n != r.full {
			t.Errorf("New(%d, %d) has %d tokens, not %d", r.rate, r.burst, n, r.full)
		}
		if e := b.Take(r.full); e != api.OK || b.Tokens() != 0 {
			t.Errorf("Take(%d) = %v, and %d are left", r.full, e, b.Tokens())
		}
		b.Tick()
		if n := b.Tokens(); n != r.tick {
			t.Errorf("New(%d, %d) has %d tokens behind a tick, not %d", r.rate, r.burst, n, r.tick)
		}
		if e := b.Take(r.tick + 1); e != api.ErrQuota {
			t.Errorf("Take(%d) = %v", r.tick+1, e)
		}
	}
}

// 23.1: each rate, in New and in Set, by what one tick brings to an empty bucket of the greatest burst.
func TestRateBounds(t *testing.T) {
	for _, rate := range edges() {
		for _, by := range []string{"New", "Set"} {
			x := newBoth(t, rate, most)
			if by == "Set" {
				x = newBoth(t, 1, most)
				x.set(rate, most)
			}
			x.take(most)
			x.tick()
			if n := x.b.Tokens(); n != inBounds(rate) {
				t.Fatalf("%s with the rate %d: %d tokens behind a tick", by, rate, n)
			}
		}
	}
}

// 23.1: each rate with each burst, in Set, of buckets that are full, empty, and between.
func TestSet(t *testing.T) {
	for _, burst := range []int{0, 1, 7, most - 1, most} {
		for _, left := range []int{0, 1, burst / 2, burst - 1, burst} {
			if left < 0 || left > burst {
				continue
			}
			for _, rate := range edges() {
				for _, other := range edges() {
					x := newBoth(t, 5, burst)
					x.take(burst - left)
					x.set(rate, other)
					if n := x.b.Tokens(); n != min(left, inBounds(other)) {
						t.Fatalf("%d tokens of %d behind Set(%d, %d)", n, left, rate, other)
					}
					x.take(x.c.tokens + 1)
					x.tick()
					x.take(x.c.tokens)
					x.tick()
				}
			}
		}
	}
}

// 23.1: a burst that is set below the tokens, at them, above them, by one and by more; at the next tick the new rate and burst hold.
func TestSetAtTokens(t *testing.T) {
	rows := []struct {
		tokens, burst, want, next int
	}{
		{10, 9, 9, 9}, {10, 10, 10, 10}, {10, 11, 10, 11}, {10, 12, 10, 12}, {10, 13, 10, 12}, {10, 0, 0, 0}, {10, 1, 1, 1}, {10, 40, 10, 12},
		{0, 0, 0, 0}, {0, 1, 0, 1}, {0, 2, 0, 2}, {0, 3, 0, 2}, {1, 0, 0, 0}, {1, 1, 1, 1}, {1, 2, 1, 2}, {1, 3, 1, 3}, {1, 4, 1, 3},
		{most, most - 1, most - 1, most - 1}, {most, most, most, most}, {most, most + 1, most, most}, {most - 1, most + 1, most - 1, most}, {most - 3, most, most - 3, most - 1},
	}
	for _, r := range rows {
		x := newBoth(t, 17, most)
		x.take(most - r.tokens)
		x.set(2, r.burst)
		if n := x.b.Tokens(); n != r.want {
			t.Errorf("%d tokens of %d behind a burst of %d, not %d", n, r.tokens, r.burst, r.want)
		}
		x.tick()
		if n := x.b.Tokens(); n != r.next {
			t.Errorf("%d tokens of %d behind a burst of %d, and a tick, not %d", n, r.tokens, r.burst, r.next)
		}
	}
}

// 23.1: tokens above a burst that was set are gone for good: a greater burst, set at once, does not bring them again.
func TestSetLower(t *testing.T) {
	x := newBoth(t, 0, 20)
	x.set(0, 3)
	x.set(0, 20)
	x.tick()
	if n := x.b.Tokens(); n != 3 {
		t.Fatalf("%d tokens", n)
	}
	x.set(0, -1)
	x.set(most, most)
	if n := x.b.Tokens(); n != 0 {
		t.Fatalf("%d tokens", n)
	}
	x.tick()
	if n := x.b.Tokens(); n != most {
		t.Fatalf("%d tokens", n)
	}
}

// 23.1: Set is no tick, and takes nothing: the same rate and burst, or others, any number of times.
func TestSetAgain(t *testing.T) {
	x := newBoth(t, 4, 30)
	x.take(20)
	for range 20 {
		x.set(4, 30)
		x.set(9, 25)
		x.set(0, 10)
	}
	if n := x.b.Tokens(); n != 10 {
		t.Fatalf("%d tokens", n)
	}
	x.set(4, 30)
	x.tick()
	if n := x.b.Tokens(); n != 14 {
		t.Fatalf("%d tokens", n)
	}
}

// 23.1: n about the tokens, of each number of tokens, small and great; what is refused changes nothing.
func TestTake(t *testing.T) {
	numbers := []int{most/2 - 1, most / 2, most - 2, most - 1, most}
	for n := range 40 {
		numbers = append(numbers, n)
	}
	for _, tokens := range numbers {
		for _, k := range []int{0, 1, 2, tokens - 2, tokens - 1, tokens, tokens + 1, tokens + 2, 2 * tokens, -tokens, tokens - most, tokens + 1<<31, tokens + 1<<32} {
			x := newBoth(t, 3, most)
			x.take(most - tokens)
			e := x.take(k)
			switch {
			case k < 0 && e != api.ErrForm, k >= 0 && k <= tokens && e != api.OK, k > tokens && e != api.ErrQuota:
				t.Fatalf("Take(%d) of %d = %v", k, tokens, e)
			}
			want := tokens
			if e == api.OK {
				want = tokens - k
			}
			if n := x.b.Tokens(); n != want {
				t.Fatalf("%d tokens of %d behind Take(%d)", n, tokens, k)
			}
			x.refused()
			x.tick()
			x.all()
		}
	}
}

// 23.1: n below 0 is ErrForm, whatever the tokens, the rate and the burst are.
func TestTakeBelow(t *testing.T) {
	for _, rate := range []int{-1, 0, 1, most} {
		for _, burst := range []int{-1, 0, 1, 5, most} {
			x := newBoth(t, rate, burst)
			for _, n := range edges() {
				if n < 0 && x.take(n) != api.ErrForm {
					t.Fatalf("Take(%d) of New(%d, %d)", n, rate, burst)
				}
			}
			x.all()
			for _, n := range edges() {
				if n < 0 && x.take(n) != api.ErrForm {
					t.Fatalf("Take(%d) of none", n)
				}
			}
		}
	}
}

// 23.1: many that are taken one by one, up to the last one.
func TestTakeOnes(t *testing.T) {
	b := New(0, most)
	for i := range most {
		if n := b.Tokens(); n != most-i {
			t.Fatalf("%d tokens behind %d", n, i)
		}
		if e := b.Take(1); e != api.OK {
			t.Fatalf("Take(1) = %v behind %d", e, i)
		}
	}
	for range 3 {
		if e := b.Take(1); e != api.ErrQuota || b.Tokens() != 0 {
			t.Fatalf("Take(1) = %v of none, and %d are left", e, b.Tokens())
		}
		b.Tick()
	}
}

// 23.1: a tick at which the burst is reached just, by one less, by one more.
func TestTickAtBurst(t *testing.T) {
	for _, rate := range []int{1, 2, 3, 10, 1000, most/2 - 1, most / 2, most - 1} {
		for _, burst := range []int{rate + 1, rate + 2, 2 * rate, 2*rate + 1, most - 1, most} {
			if burst > most {
				continue
			}
			for _, by := range []int{-2, -1, 0, 1, 2} {
				left := burst - rate + by
				if left < 0 || left > burst {
					continue
				}
				x := newBoth(t, rate, burst)
				x.take(burst - left)
				x.tick()
				if n := x.b.Tokens(); n != burst+min(by, 0) {
					t.Fatalf("%d tokens behind a tick, of a rate of %d, a burst of %d, %d left", n, rate, burst, left)
				}
				x.tick()
				if n := x.b.Tokens(); n != min(burst, burst+by+rate) {
					t.Fatalf("%d tokens behind two ticks, of a rate of %d, a burst of %d, %d left", n, rate, burst, left)
				}
				x.refused()
			}
		}
	}
}

// 23.1: a rate above the burst fills the bucket at each tick, and no more; a rate of 0 brings nothing.
func TestRates(t *testing.T) {
	for _, burst := range []int{0, 1, 2, 5, 1000, most - 1, most} {
		for _, more := range []int{0, 1, 2, 1000, most} {
			x := newBoth(t, burst+more, burst)
			for _, left := range []int{0, 1, burst / 2, burst - 1, burst} {
				x.take(x.c.tokens - left)
				x.tick()
				if n := x.b.Tokens(); n != burst {
					t.Fatalf("%d tokens of %d, of a rate of %d", n, burst, burst+more)
				}
			}
		}
		x := newBoth(t, 0, burst)
		x.take((burst + 1) / 2)
		for range 10 {
			x.tick()
			if n := x.b.Tokens(); n != burst/2 {
				t.Fatalf("%d tokens of %d, without a rate", n, burst)
			}
		}
	}
}

// 23.1: an empty bucket that is ticked till it is full, and far beyond.
func TestFilled(t *testing.T) {
	for _, rate := range []int{1, 2, 3, 7, 4096, most/3 + 1, most - 1, most} {
		for _, burst := range []int{most - 1, most} {
			b := New(rate, burst)
			b.Take(burst)
			for i := range burst/rate + 10 {
				if n := b.Tokens(); n != min(i*rate, burst) {
					t.Fatalf("%d tokens behind %d ticks, of a rate of %d", n, i, rate)
				}
				b.Tick()
			}
		}
	}
	b := New(most, most)
	for range 3 * most {
		b.Tick()
	}
	if n := b.Tokens(); n != most {
		t.Fatalf("%d tokens behind many ticks", n)
	}
}

// 23.1: of nil: nothing is taken of it, and nothing is kept by it.
func TestNil(t *testing.T) {
	var b *Bucket
	for range 3 {
		for _, n := range edges() {
			want := api.OK
			switch {
			case n < 0:
				want = api.ErrForm
			case n > 0:
				want = api.ErrQuota
			}
			if e := b.Take(n); e != want {
				t.Errorf("Take(%d) of nil = %v, not %v", n, e, want)
			}
		}
		b.Tick()
		for _, n := range edges() {
			b.Set(n, 5)
			b.Set(5, n)
			b.Tick()
			if b.Tokens() != 0 || b.Take(1) != api.ErrQuota || b.Take(0) != api.OK || b.Take(-1) != api.ErrForm {
				t.Errorf("nil has %d tokens behind Set of %d", b.Tokens(), n)
			}
		}
	}
}

// 23.1: a bucket that no call made is as New(0, 0), in each function, and behind each.
func TestNotMade(t *testing.T) {
	begin := []func(*both){
		func(x *both) {},
		func(x *both) { x.tick() },
		func(x *both) { x.take(0) },
		func(x *both) { x.take(1) },
		func(x *both) { x.take(-1) },
		func(x *both) { x.set(0, 0) },
		func(x *both) { x.set(-1, -1) },
		func(x *both) { x.set(2, 5) },
		func(x *both) { x.set(9, 5) },
		func(x *both) { x.set(0, 5) },
		func(x *both) { x.set(5, 0) },
		func(x *both) { x.set(math.MaxInt, math.MaxInt) },
	}
	var plain Bucket
	if *New(0, 0) != plain {
		t.Error("a bucket that no call made is not as New(0, 0)")
	}
	if plain.Tokens() != 0 || plain.Take(1) != api.ErrQuota || plain.Take(0) != api.OK || plain.Take(-1) != api.ErrForm {
		t.Errorf("a bucket that no call made has %d tokens", plain.Tokens())
	}
	for _, first := range begin {
		for _, second := range begin {
			x := of(t, &Bucket{}, counted{})
			y := newBoth(t, 0, 0)
			for _, z := range []*both{x, y} {
				first(z)
				second(z)
				z.tick()
				z.refused()
				z.take(1)
				z.tick()
				z.all()
				z.set(3, 4)
				z.tick()
				z.all()
			}
			if *x.b != *y.b {
				t.Fatalf("%v is not as %v", *x.b, *y.b)
			}
		}
	}
}

// R5: buckets side by side: what is done to one changes no other.
func TestSideBySide(t *testing.T) {
	r := rand.New(rand.NewSource(4))
	var l []*both
	for i := range 12 {
		l = append(l, newBoth(t, i%4, 3*i))
	}
	for range 3000 {
		x := l[r.Intn(len(l))]
		if len(x.log) < 200 {
			randomStep(r, x)
		}
		for _, y := range l {
			if n := y.b.Tokens(); n != y.c.tokens {
				t.Fatalf("%d tokens, not %d, of a bucket to which nothing was done", n, y.c.tokens)
			}
		}
	}
}

// R5: the same steps again: the same answers; and Tokens, asked any number of times, changes nothing.
func TestAgain(t *testing.T) {
	run := func(asks int) []int {
		r := rand.New(rand.NewSource(9))
		b := New(5, 100)
		var l []int
		for range 500 {
			switch r.Intn(4) {
			case 0:
				b.Tick()
			case 1:
				b.Set(r.Intn(9), r.Intn(120))
			default:
				l = append(l, int(b.Take(r.Intn(40)-2)))
			}
			for range asks {
				b.Tokens()
			}
			l = append(l, b.Tokens())
		}
		return l
	}
	first := run(0)
	for _, asks := range []int{0, 1, 5} {
		for i, n := range run(asks) {
			if n != first[i] {
				t.Fatalf("answer %d is %d, not %d", i, n, first[i])
			}
		}
	}
}

// short is a step of the short rows.
type short func(*both)

// shorts are small steps: a tick, takes, and other rates and bursts.
func shorts() []short {
	l := []short{func(x *both) { x.tick() }}
	for n := -1; n <= 3; n++ {
		l = append(l, func(x *both) { x.take(n) })
	}
	for _, s := range [][2]int{{0, 2}, {1, 3}, {3, 1}, {2, 0}} {
		l = append(l, func(x *both) { x.set(s[0], s[1]) })
	}
	return l
}

// 23.1, 23.3: all rows of five small steps, of small buckets.
func TestAllShortRows(t *testing.T) {
	l := shorts()
	rows := 1
	for range 5 {
		rows *= len(l)
	}
	for _, start := range [][2]int{{0, 1}, {1, 2}, {2, 3}, {3, 2}} {
		for row := range rows {
			x := newBoth(t, start[0], start[1])
			for n := row; len(x.log) <= 5; n /= len(l) {
				l[n%len(l)](x)
			}
		}
	}
}

// about is a number by chance: within a bound, or about it, or at the edges.
func about(r *rand.Rand, bound int) int {
	switch r.Intn(8) {
	case 0:
		return edges()[r.Intn(len(edges()))]
	case 1, 2, 3:
		return bound + r.Intn(5) - 2
	}
	return r.Intn(bound + 1)
}

// randomStep goes a step by chance.
func randomStep(r *rand.Rand, x *both) {
	x.t.Helper()
	switch k := r.Intn(20); {
	case k < 7:
		x.tick()
	case k < 16:
		x.take(about(r, x.c.tokens))
	case k < 17:
		x.take(about(r, x.c.rate))
	case k < 18:
		x.take(about(r, x.c.burst))
	case k < 19:
		x.set(about(r, x.c.rate), about(r, x.c.burst))
	default:
		x.set(about(r, 20), about(r, 100))
	}
}

// 23.1, 23.3: rows of steps by chance, of small and of great rates and bursts, with others set between.
func TestByChance(t *testing.T) {
	r := rand.New(rand.NewSource(1))
	for range 4000 {
		bound := []int{3, 30, 1000, most}[r.Intn(4)]
		x := newBoth(t, about(r, bound), about(r, bound))
		for range 1 + r.Intn(60) {
			randomStep(r, x)
		}
	}
}

// done is a step of a row: a tick, or a Take of n, and its answer.
type done struct {
	tick bool
	n    int
	e    api.Errno
}

// cost is what a step took.
func (d done) cost() int {
	if d.tick || d.e != api.OK {
		return 0
	}
	return d.n
}

// ticks are 1 for a tick, else 0.
func (d done) ticks() int {
	if d.tick {
		return 1
	}
	return 0
}

// over tells whether n more behind a row would be more than some time that ends then lets be.
func over(rate, burst int, row []done, n int) bool {
	taken, ticks := 0, 0
	for from := len(row); ; from-- {
		if taken+n > burst+rate*ticks {
			return true
		}
		if from == 0 {
			return false
		}
		taken += row[from-1].cost()
		ticks += row[from-1].ticks()
	}
}

// within asks whether a row of steps keeps to 23.3, by what was answered alone.
func within(t *testing.T, rate, burst int, row []done) {
	t.Helper()
	for from := range row {
		taken, ticks := 0, 0
		for to := from; to < len(row); to++ {
			taken += row[to].cost()
			ticks += row[to].ticks()
			if taken > burst+rate*ticks {
				t.Fatalf("%d were taken in %d ticks, of a rate of %d and a burst of %d", taken, ticks, rate, burst)
			}
		}
	}
	for i, d := range row {
		if d.tick {
			continue
		}
		want := api.OK
		if over(rate, burst, row[:i], d.n) {
			want = api.ErrQuota
		}
		if d.e != want {
			t.Fatalf("step %d: Take(%d) = %v, not %v, of a rate of %d and a burst of %d", i, d.n, d.e, want, rate, burst)
		}
	}
}

// step goes a step: a tick, if n is below 0, else a Take of n.
func step(b *Bucket, n int) done {
	if n < 0 {
		b.Tick()
		return done{tick: true}
	}
	return done{n: n, e: b.Take(n)}
}

// 23.3: all rows of six steps, of small rates and bursts.
func TestAllTimes(t *testing.T) {
	for rate := range 4 {
		for burst := range 5 {
			for row := range 5 * 5 * 5 * 5 * 5 * 5 {
				b := New(rate, burst)
				var l []done
				for n := row; len(l) < 6; n /= 5 {
					l = append(l, step(b, n%5-1))
				}
				within(t, rate, burst, l)
			}
		}
	}
}

// 23.3: rows of steps by chance, of small and of great rates and bursts.
func TestTimesByChance(t *testing.T) {
	r := rand.New(rand.NewSource(2))
	for range 3000 {
		bound := []int{4, 50, 5000, most}[r.Intn(4)]
		rate, burst := r.Intn(bound+1), r.Intn(bound+1)
		often := 1 + r.Intn(6)
		b := New(rate, burst)
		var l []done
		for range 1 + r.Intn(80) {
			n := -1
			if r.Intn(6) < often {
				n = max(0, []int{r.Intn(burst + 2), r.Intn(rate + 2), b.Tokens(), b.Tokens() + 1, b.Tokens() - 1, burst, burst + 1}[r.Intn(7)])
			}
			l = append(l, step(b, n))
		}
		within(t, rate, burst, l)
	}
}

// 23.3: the bound is reached, and no more: who takes all that there is, ahead of each tick, has in all just the burst and what the ticks brought.
func TestAllThatMayBe(t *testing.T) {
	for _, rate := range []int{0, 1, 5, 999, most} {
		for _, burst := range []int{0, 1, 5, 1000, most} {
			b := New(rate, burst)
			got := b.Tokens()
			b.Take(got)
			for ticks := 1; ticks < 100; ticks++ {
				b.Tick()
				n := b.Tokens()
				if b.Take(n+1) != api.ErrQuota || b.Take(n) != api.OK {
					t.Fatalf("%d cannot be taken, or more can be", n)
				}
				got += n
				if want := burst + min(rate, burst)*ticks; got != want {
					t.Fatalf("%d were taken in %d ticks, not %d, of a rate of %d and a burst of %d", got, ticks, want, rate, burst)
				}
			}
		}
	}
}

// 23.3: between two Sets what is taken is within the burst and the rate of the first one.
func TestTimesBetweenSets(t *testing.T) {
	r := rand.New(rand.NewSource(3))
	for range 2000 {
		b := New(r.Intn(6), r.Intn(20))
		for range 4 {
			rate, burst := r.Intn(6), r.Intn(20)
			b.Set(rate, burst)
			taken, ticks := 0, 0
			for range 20 {
				d := step(b, r.Intn(12)-4)
				taken += d.cost()
				ticks += d.ticks()
				if taken > burst+rate*ticks {
					t.Fatalf("%d were taken in %d ticks behind Set(%d, %d)", taken, ticks, rate, burst)
				}
			}
		}
	}
}

// number is what a number counts as to Wait, in numbers without bounds.
func number(n int) *big.Int {
	x, top := big.NewInt(int64(n)), big.NewInt(mostOfWait)
	if x.Sign() < 0 {
		return new(big.Int)
	}
	if x.Cmp(top) > 0 {
		return top
	}
	return x
}

// wordsWait is how many ticks it takes by the chapter's words: the least number of them that brings enough, found by halves.
func wordsWait(tokens, rate, n int) int {
	have, more, want := number(tokens), number(rate), number(n)
	enough := func(ticks int64) bool {
		sum := new(big.Int).Mul(more, big.NewInt(ticks))
		return sum.Add(sum, have).Cmp(want) >= 0
	}
	if enough(0) {
		return 0
	}
	if more.Sign() == 0 {
		return -1
	}
	few, many := int64(0), int64(mostOfWait)
	for many-few > 1 {
		half := few + (many-few)/2
		if enough(half) {
			many = half
		} else {
			few = half
		}
	}
	return int(many)
}

// ticked is how many ticks it takes a bucket till it has n tokens; -1, if they bring none.
func ticked(t *testing.T, tokens, rate, n int) int {
	t.Helper()
	b := New(rate, most)
	if e := b.Take(most - tokens); e != api.OK || b.Tokens() != tokens {
		t.Fatalf("%d tokens, not %d", b.Tokens(), tokens)
	}
	for ticks := 0; ; ticks++ {
		ahead := b.Tokens()
		if b.Take(n) == api.OK {
			return ticks
		}
		b.Tick()
		if b.Tokens() == ahead {
			return -1
		}
	}
}

// waits asks Wait, and whether the answer is as the words say.
func waits(t *testing.T, tokens, rate, n int) int {
	t.Helper()
	got := Wait(tokens, rate, n)
	if want := wordsWait(tokens, rate, n); got != want {
		t.Fatalf("Wait(%d, %d, %d) = %d, not %d", tokens, rate, n, got, want)
	}
	return got
}

// 23.2: rows of Wait that were worked out by hand.
func TestWaitRows(t *testing.T) {
	const top = mostOfWait
	rows := [][4]int{
		{1, 3, 10, 3}, {10, 0, 10, 0}, {0, 0, 1, -1}, {0, 0, 0, 0}, {0, 1, 1, 1}, {0, 1, 0, 0}, {0, 5, 0, 0},
		{0, 3, 9, 3}, {0, 3, 8, 3}, {0, 3, 10, 4}, {0, 3, 7, 3}, {0, 3, 6, 2}, {1, 3, 11, 4}, {2, 3, 11, 3}, {2, 3, 12, 4},
		{10, 3, 9, 0}, {10, 3, 10, 0}, {10, 3, 11, 1}, {10, 3, 13, 1}, {10, 3, 14, 2}, {9, 0, 10, -1}, {11, 0, 10, 0},
		{0, 10, 1, 1}, {0, 10, 9, 1}, {0, 10, 10, 1}, {0, 10, 11, 2}, {0, 1, 1048576, 1048576}, {0, 2, 1048577, 524289},
		{-1, 0, 0, 0}, {-1, 0, 1, -1}, {-1, 1, 1, 1}, {-5, 2, 3, 2}, {-5, 2, 4, 2}, {3, -2, 3, 0}, {3, -2, 4, -1}, {3, -1, 2, 0},
		{0, 0, -1, 0}, {0, 5, -1, 0}, {-3, 0, -1, 0}, {-3, 1, -1, 0}, {-3, -1, -1, 0}, {5, 1, -1, 0},
		{math.MinInt, math.MinInt, math.MinInt, 0}, {math.MinInt, math.MinInt, 1, -1}, {math.MinInt, 1, 1, 1}, {math.MinInt, 1, top, top}, {math.MinInt, math.MaxInt, math.MaxInt, 1},
		{0, 1, top - 1, top - 1}, {0, 1, top, top}, {0, 1, top + 1, top}, {0, 1, math.MaxInt, top}, {1, 1, top + 1, top - 1},
		{0, 2, top - 1, top / 2}, {0, 2, top, top / 2}, {0, 2, top + 1, top / 2}, {0, 3, top, 366503875926}, {0, 3, top - 1, 366503875925},
		{top - 1, 0, top - 1, 0}, {top - 1, 0, top, -1}, {top - 1, 0, top + 1, -1}, {top - 1, 1, top, 1}, {top - 1, top, top, 1}, {top - 2, 1, top + 1, 2},
		{top, 0, top, 0}, {top, 0, top + 1, 0}, {top, 0, math.MaxInt, 0}, {top, 1, math.MaxInt, 0}, {top + 1, 0, top, 0}, {top + 1, 0, math.MaxInt, 0}, {math.MaxInt, 0, math.MaxInt, 0}, {math.MaxInt, 0, 1, 0},
		{0, top - 1, top, 2}, {0, top, top, 1}, {0, top + 1, top, 1}, {0, top, top - 1, 1}, {0, top - 1, top - 1, 1}, {0, top - 1, math.MaxInt, 2}, {0, math.MaxInt, math.MaxInt, 1}, {1, top - 1, math.MaxInt, 1},
		{0, top/2 - 1, top, 3}, {0, top / 2, top, 2}, {0, top/2 + 1, top, 2}, {1, math.MaxInt, 1, 0}, {1, math.MaxInt, 2, 1},
	}
	for _, r := range rows {
		if got := Wait(r[0], r[1], r[2]); got != r[3] {
			t.Errorf("Wait(%d, %d, %d) = %d, not %d", r[0], r[1], r[2], got, r[3])
		}
		waits(t, r[0], r[1], r[2])
	}
}

// 23.2: Wait is as long as a bucket is ticked till the tokens are there: all small numbers.
func TestWaitSmall(t *testing.T) {
	for tokens := range 13 {
		for rate := range 15 {
			for n := range 41 {
				if got, want := waits(t, tokens, rate, n), ticked(t, tokens, rate, n); got != want {
					t.Fatalf("Wait(%d, %d, %d) = %d, and a bucket takes %d", tokens, rate, n, got, want)
				}
			}
		}
	}
}

// 23.2: the same of great numbers, as far as a bucket has them: those that the rate divides, and those about them.
func TestWaitTicked(t *testing.T) {
	r := rand.New(rand.NewSource(5))
	for range 3000 {
		rate := 1 + r.Intn([]int{10, 1000, most}[r.Intn(3)])
		tokens := r.Intn([]int{1, 100, most + 1}[r.Intn(3)])
		n := tokens + rate*r.Intn(300) + r.Intn(3) - 1
		if n < 0 || n > most {
			continue
		}
		if got, want := waits(t, tokens, rate, n), ticked(t, tokens, rate, n); got != want {
			t.Fatalf("Wait(%d, %d, %d) = %d, and a bucket takes %d", tokens, rate, n, got, want)
		}
	}
	for _, x := range [][3]int{{0, 1, most}, {0, 2, most}, {0, 3, most}, {0, most, most}, {0, most - 1, most}, {most - 1, 1, most}, {most, 0, most}, {most - 1, 0, most}} {
		if got, want := waits(t, x[0], x[1], x[2]), ticked(t, x[0], x[1], x[2]); got != want {
			t.Fatalf("Wait of %v = %d, and a bucket takes %d", x, got, want)
		}
	}
}

// 23.2: a rate above what a bucket has is a rate to Wait, up to 2^40.
func TestWaitGreatRate(t *testing.T) {
	for _, rate := range []int{most, most + 1, 2 * most, 1 << 31, 1<<31 + 1, 1 << 32, 1<<32 + 1, 1 << 39} {
		for by := -2; by <= 2; by++ {
			want := 2
			if by > 0 {
				want = 3
			}
			if rate == 1<<39 && by > 0 {
				want = 2
			}
			if got := waits(t, 0, rate, 2*rate+by); got != want {
				t.Fatalf("Wait(0, %d, %d) = %d, not %d", rate, 2*rate+by, got, want)
			}
		}
	}
}

// waitEdges are numbers about 0, 2^31, 2^32, 2^40 and its half, 2^41, and the bounds of an int.
func waitEdges() []int {
	l := []int{math.MinInt, math.MinInt + 1, math.MaxInt - 1, math.MaxInt, 10, 1000, most, 1<<62 + 1}
	for _, n := range []int{0, 1 << 31, 1 << 32, mostOfWait / 2, mostOfWait, 2 * mostOfWait} {
		l = append(l, n-1, n, n+1, -n-1, -n)
	}
	return append(l, mostOfWait-2, mostOfWait+2, 2, 3)
}

// 23.2: each of the three numbers at its edges, with each of the others.
func TestWaitEdges(t *testing.T) {
	for _, tokens := range waitEdges() {
		for _, rate := range waitEdges() {
			for _, n := range waitEdges() {
				waits(t, tokens, rate, n)
			}
		}
	}
}

// 23.2: each of the three numbers below 0 is as 0, and above 2^40 as that, whatever the others are.
func TestWaitBounds(t *testing.T) {
	for _, a := range waitEdges() {
		for _, b := range waitEdges() {
			for _, far := range []int{-1, -2, -most, -mostOfWait, math.MinInt} {
				if Wait(far, a, b) != Wait(0, a, b) || Wait(a, far, b) != Wait(a, 0, b) || Wait(a, b, far) != Wait(a, b, 0) {
					t.Fatalf("%d is not as 0, with %d, %d", far, a, b)
				}
			}
			for _, far := range []int{mostOfWait + 1, mostOfWait + 2, 2 * mostOfWait, 1 << 62, math.MaxInt} {
				if Wait(far, a, b) != Wait(mostOfWait, a, b) || Wait(a, far, b) != Wait(a, mostOfWait, b) || Wait(a, b, far) != Wait(a, b, mostOfWait) {
					t.Fatalf("%d is not as 2^40, with %d, %d", far, a, b)
				}
			}
		}
	}
}

// 23.2: numbers by chance, of any bits.
func TestWaitByChance(t *testing.T) {
	r := rand.New(rand.NewSource(6))
	draw := func() int {
		n := int(r.Uint64() >> (1 + r.Intn(63)))
		if r.Intn(10) == 0 {
			return -n
		}
		return n
	}
	for range 30000 {
		tokens, rate := draw(), draw()
		waits(t, tokens, rate, draw())
		if tokens >= 0 && tokens < mostOfWait && rate >= 0 && rate < mostOfWait {
			waits(t, tokens, rate, tokens+rate)
			waits(t, tokens, rate, tokens+rate+1)
			waits(t, tokens, rate, tokens+3*rate-1)
		}
	}
}
