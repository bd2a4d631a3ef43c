package mac

import (
	"math"
	"math/big"
	"math/rand"
	"sync"
	"testing"

	"concourse/api"
	"concourse/dice"
)

// last is the last owner, by the chapter's words.
const last = 8

// wrongOwners are numbers of no owner, some of them an owner's in their last bits.
var wrongOwners = []int{-1, -2, -8, -9, -247, -256, -255, 9, 10, 16, 255, 256, 257, 1 << 31, 1 << 32, 1<<32 + 1, -1 << 32, math.MaxInt, math.MinInt, math.MinInt + 1}

// number is a number without bounds.
func number(n uint64) *big.Int {
	return new(big.Int).SetUint64(n)
}

// mixed is Mix by chapter 20's words, in numbers without bounds.
func mixed(a, b *big.Int) uint64 {
	whole := new(big.Int).Lsh(big.NewInt(1), 64)
	xor := func(x *big.Int, power uint) *big.Int {
		q := new(big.Int).Quo(x, new(big.Int).Exp(big.NewInt(2), big.NewInt(int64(power)), nil))
		return q.Xor(x, q)
	}
	x := new(big.Int).Xor(a, b)
	x.Mul(x, number(11400714819323198485)).Mod(x, whole)
	x = xor(x, 29)
	x.Mul(x, number(13787848793156543929)).Mod(x, whole)
	return xor(x, 32).Uint64()
}

// wordsTag is a tag by the chapter's words.
func wordsTag(n uint64, epoch, owner int) uint64 {
	b := new(big.Int).Exp(big.NewInt(2), big.NewInt(8), nil)
	b.Mul(b, big.NewInt(int64(epoch))).Add(b, big.NewInt(int64(owner)))
	tag := mixed(number(n), b)
	if tag == 0 {
		tag = 1
	}
	return tag
}

// issued is something that an Issue told.
type issued struct {
	owner, epoch int
	tag          uint64
}

// both are a table and dice, and the chapter's words of them: all that was issued, the epochs, whose last tag stands, and what the dice have left.
type both struct {
	t      *testing.T
	x      *Table
	d      *dice.Dice
	left   []uint64
	epochs map[int]int
	now    map[int]issued
	log    []issued
}

func newBoth(t *testing.T) *both {
	return of(t, New())
}

func of(t *testing.T, x *Table) *both {
	return &both{t: t, x: x, d: dice.New(), epochs: map[int]int{}, now: map[int]issued{}}
}

// draw puts a number into the dice.
func (b *both) draw(n uint64) {
	b.t.Helper()
	if !b.d.Put(n) {
		b.t.Fatal("the dice are full")
	}
	b.left = append(b.left, n)
}

// issue issues a tag, and asks whether what is told is as the words say.
func (b *both) issue(owner int) issued {
	b.t.Helper()
	var want issued
	e := api.OK
	switch {
	case owner < 0 || owner > last:
		e = api.ErrForm
	case len(b.left) == 0:
		e = api.ErrState
	default:
		epoch := b.epochs[owner] + 1
		want = issued{owner, epoch, wordsTag(b.left[0], epoch, owner)}
		b.left = b.left[1:]
		b.epochs[owner] = epoch
		b.now[owner] = want
		b.log = append(b.log, want)
	}
	epoch, tag, err := b.x.Issue(owner, b.d)
	if epoch != want.epoch || tag != want.tag || err != e {
		b.t.Fatalf("Issue(%d) = %d, %d, %v, not %d, %d, %v", owner, epoch, tag, err, want.epoch, want.tag, e)
	}
	b.diceLeft()
	return want
}

// issueOf issues a tag by a number of its own.
func (b *both) issueOf(owner int, n uint64) issued {
	b.t.Helper()
	b.draw(n)
	return b.issue(owner)
}

// revoke revokes an owner's tag, and asks whether what is told is as the words say.
func (b *both) revoke(owner int) {
	b.t.Helper()
	e := api.OK
	if _, ok := b.now[owner]; owner < 0 || owner > last {
		e = api.ErrForm
	} else if !ok {
		e = api.ErrNone
	}
	delete(b.now, owner)
	if err := b.x.Revoke(owner); err != e {
		b.t.Fatalf("Revoke(%d) = %v, not %v", owner, err, e)
	}
	b.diceLeft()
}

func (b *both) diceLeft() {
	b.t.Helper()
	if n := b.d.Left(); n != len(b.left) {
		b.t.Fatalf("the dice have %d left, not %d", n, len(b.left))
	}
}

// knows asks for a tag, and whether the answer is as the words say.
func (b *both) knows(owner, epoch int, tag uint64) {
	b.t.Helper()
	k, ok := b.now[owner]
	want := ok && k.epoch == epoch && k.tag == tag
	if got := b.x.Knows(owner, epoch, tag); got != want {
		b.t.Fatalf("Knows(%d, %d, %d) = %v, not %v", owner, epoch, tag, got, want)
	}
}

// around asks for all tags near to one that was issued: of all owners, of epochs ahead and behind, and tags like it.
func (b *both) around(l issued) {
	b.t.Helper()
	for owner := -1; owner <= last+1; owner++ {
		b.knows(owner, l.epoch, l.tag)
	}
	for _, epoch := range []int{l.epoch - 1, l.epoch + 1, 0, -l.epoch, b.epochs[l.owner], b.epochs[l.owner] + 1, l.epoch + 256, l.epoch + 1<<32, math.MaxInt, math.MinInt} {
		b.knows(l.owner, epoch, l.tag)
	}
	for _, tag := range []uint64{0, 1, l.tag - 1, l.tag + 1, ^l.tag, l.tag ^ 1<<63, l.tag ^ 1<<32, math.MaxUint64, l.tag & math.MaxUint32} {
		b.knows(l.owner, l.epoch, tag)
	}
}

// all asks for the epochs, for all that was ever issued, and for what never was.
func (b *both) all() {
	b.t.Helper()
	for owner := -2; owner <= last+2; owner++ {
		if n := b.x.Epoch(owner); n != b.epochs[owner] {
			b.t.Fatalf("Epoch(%d) = %d, not %d", owner, n, b.epochs[owner])
		}
		for _, epoch := range []int{-1, 0, 1, b.epochs[owner] - 1, b.epochs[owner], b.epochs[owner] + 1} {
			b.knows(owner, epoch, 0)
			b.knows(owner, epoch, 1)
		}
	}
	for _, l := range b.log {
		b.around(l)
		// Each epoch with each tag of its owner.
		for _, m := range b.log {
			b.knows(l.owner, m.epoch, l.tag)
		}
	}
}

// quick asks for the epochs, and for all that was ever issued.
func (b *both) quick() {
	b.t.Helper()
	for owner := range last + 1 {
		if n := b.x.Epoch(owner); n != b.epochs[owner] {
			b.t.Fatalf("Epoch(%d) = %d, not %d", owner, n, b.epochs[owner])
		}
		b.knows(owner, b.epochs[owner], 0)
	}
	for _, l := range b.log {
		b.knows(l.owner, l.epoch, l.tag)
		b.knows(l.owner, b.epochs[l.owner], l.tag)
	}
}

// numbers are small and great ones, and those at the edges of their bits.
func numbers() []uint64 {
	l := []uint64{0, 1, 2, 5, 77, 78, 255, 256, 257, 264, 512, 1000, math.MaxUint32, math.MaxInt64, math.MaxUint64, math.MaxUint64 - 1, 0x5555555555555555, 0xaaaaaaaaaaaaaaaa}
	for i := range 64 {
		l = append(l, 1<<i, ^uint64(1<<i))
	}
	return l
}

// The chapter's example: nothing is known of a new table.
func TestNew(t *testing.T) {
	x := New()
	for owner := -3; owner <= last+3; owner++ {
		if x.Epoch(owner) != 0 {
			t.Errorf("Epoch(%d) = %d", owner, x.Epoch(owner))
		}
		for epoch := -2; epoch <= 3; epoch++ {
			for _, tag := range append(numbers(), wordsTag(0, 1, 1)) {
				if x.Knows(owner, epoch, tag) {
					t.Errorf("Knows(%d, %d, %d) of New()", owner, epoch, tag)
				}
			}
		}
	}
	for owner := range last + 1 {
		if e := x.Revoke(owner); e != api.ErrNone {
			t.Errorf("Revoke(%d) of New() = %v", owner, e)
		}
	}
	if New() == New() {
		t.Error("New tells the same table twice")
	}
}

// 21.1: the bound of owners is the one that api names.
func TestOwners(t *testing.T) {
	if api.MaxTenants != last {
		t.Fatalf("MaxTenants is %d", api.MaxTenants)
	}
	x, d := New(), dice.New()
	for owner := -20; owner < 300; owner++ {
		d.Put(9)
		want := api.ErrForm
		if owner >= 0 && owner <= 8 {
			want = api.OK
		}
		if _, _, e := x.Issue(owner, d); e != want {
			t.Errorf("Issue(%d) = %v", owner, e)
		}
		if e := x.Revoke(owner); e != want {
			t.Errorf("Revoke(%d) = %v", owner, e)
		}
		d.Take()
	}
}

// 21.1: a few steps, with all answers written out.
func TestSteps(t *testing.T) {
	d, x := dice.New(), New()
	for _, n := range []uint64{77, 78, 12345678901234567890} {
		d.Put(n)
	}
	epoch, tag, e := x.Issue(1, d)
	if epoch != 1 || tag != 11892591722364380221 || e != api.OK || d.Left() != 2 {
		t.Fatalf("Issue = %d, %d, %v, and %d are left", epoch, tag, e, d.Left())
	}
	if !x.Knows(1, 1, tag) || x.Knows(1, 1, 77) || x.Knows(0, 1, tag) || x.Knows(2, 1, tag) || x.Knows(1, 2, tag) || x.Knows(1, 0, tag) || x.Knows(1, 1, 0) {
		t.Fatal("what is known behind the first Issue is wrong")
	}
	if x.Epoch(1) != 1 || x.Epoch(0) != 0 || x.Epoch(2) != 0 {
		t.Fatal("the epochs behind the first Issue are wrong")
	}
	epoch, newer, e := x.Issue(1, d)
	if epoch != 2 || newer != 5788745647362500106 || e != api.OK || d.Left() != 1 {
		t.Fatalf("Issue = %d, %d, %v, and %d are left", epoch, newer, e, d.Left())
	}
	if !x.Knows(1, 2, newer) || x.Knows(1, 1, tag) || x.Knows(1, 2, tag) || x.Knows(1, 1, newer) || x.Epoch(1) != 2 {
		t.Fatal("what is known behind the second Issue is wrong")
	}
	if e := x.Revoke(1); e != api.OK || x.Epoch(1) != 2 || d.Left() != 1 {
		t.Fatalf("Revoke = %v; the epoch is %d", e, x.Epoch(1))
	}
	if x.Knows(1, 2, newer) || x.Knows(1, 1, tag) || x.Knows(1, 2, 0) || x.Knows(1, 0, 0) {
		t.Fatal("something is known behind a Revoke")
	}
	if e := x.Revoke(1); e != api.ErrNone || x.Epoch(1) != 2 {
		t.Fatalf("Revoke again = %v; the epoch is %d", e, x.Epoch(1))
	}
	epoch, tag, e = x.Issue(1, d)
	if epoch != 3 || tag != 368675759281785791 || e != api.OK || d.Left() != 0 {
		t.Fatalf("Issue = %d, %d, %v, and %d are left", epoch, tag, e, d.Left())
	}
	if !x.Knows(1, 3, tag) || x.Knows(1, 2, newer) || x.Knows(1, 3, 0) || x.Epoch(1) != 3 {
		t.Fatal("what is known behind an Issue behind a Revoke is wrong")
	}
	epoch, tag, e = x.Issue(1, d)
	if epoch != 0 || tag != 0 || e != api.ErrState || x.Epoch(1) != 3 {
		t.Fatalf("Issue without numbers = %d, %d, %v", epoch, tag, e)
	}
}

// 21.1: owners by turns, with numbers small and of all 64 bits; the tags were worked out apart.
func TestRows(t *testing.T) {
	rows := []struct {
		owner int
		n     uint64
		epoch int
		tag   uint64
	}{
		{1, 77, 1, 11892591722364380221},
		{1, 78, 2, 5788745647362500106},
		{0, 5, 1, 12623957519141927069},
		{8, 5, 1, 17275264340979939884},
		{2, 0, 1, 249921950365798472},
		{2, 18446744073709551615, 2, 3514759634915131890},
		{1, 12345678901234567890, 3, 368675759281785791},
		{0, 7, 2, 358259527256378279},
		{0, 768, 3, 1},
		{8, 520, 2, 1},
		{8, 9223372036854775808, 3, 13668232803875936359},
		{3, 18446744073709551615, 1, 17560818091928151410},
		{3, 771, 2, 8856214527633546394},
		{2, 770, 3, 1},
		{2, 770, 4, 12126450718350252725},
		{1, 4294967296, 4, 7027952826555103188},
		{5, 0, 1, 12623957519141927069},
		{5, 1, 2, 499843900731596945},
	}
	b := newBoth(t)
	for _, r := range rows {
		b.draw(r.n)
	}
	for i, r := range rows {
		got := b.issue(r.owner)
		if want := (issued{r.owner, r.epoch, r.tag}); got != want {
			t.Errorf("the model tells %v of row %d, not %v", got, i, want)
		}
		b.all()
	}
}

// 21.1: the whole's example: the number 5, and the tenant 1.
func TestWhole(t *testing.T) {
	x, d := New(), dice.New()
	d.Put(5)
	if epoch, tag, e := x.Issue(1, d); epoch != 1 || tag != 16584132540284586915 || tag != dice.Mix(5, 257) || e != api.OK {
		t.Errorf("Issue = %d, %d, %v", epoch, tag, e)
	}
}

// 21.1: each owner with each of many numbers.
func TestNumbers(t *testing.T) {
	for owner := range last + 1 {
		b := newBoth(t)
		for _, n := range numbers() {
			b.issueOf(owner, n)
			b.quick()
		}
		b.all()
		for other := range last + 1 {
			if want := map[bool]int{true: len(numbers())}[other == owner]; b.x.Epoch(other) != want {
				t.Errorf("Epoch(%d) = %d, not %d", other, b.x.Epoch(other), want)
			}
		}
	}
}

// 21.1: epochs beyond 255, and 256 times that: the tags of some were worked out apart.
func TestManyEpochs(t *testing.T) {
	first := map[int]uint64{255: 14297516619969085157, 256: 12183843161337234687, 257: 4728907250956229080, 1000: 18359109974208215054}
	eighth := map[int]uint64{255: 9369104300015987464, 256: 13977012594753888220, 257: 16700239983415867679, 1000: 8007717543255288875}
	for owner, rows := range map[int]map[int]uint64{0: first, 8: eighth} {
		b := newBoth(t)
		for epoch := 1; epoch <= 1000; epoch++ {
			got := b.issueOf(owner, 9)
			if got.epoch != epoch {
				t.Fatalf("the epoch is %d, not %d", got.epoch, epoch)
			}
			if want, ok := rows[epoch]; ok && got.tag != want {
				t.Errorf("the tag of owner %d, epoch %d is %d, not %d", owner, epoch, got.tag, want)
			}
			b.around(got)
			if epoch > 1 {
				b.around(b.log[epoch-2])
			}
			if epoch > 256 {
				b.around(b.log[epoch-257])
			}
		}
		b.quick()
	}
	long := newBoth(t)
	for range 70000 {
		long.issueOf(3, 1<<40)
	}
	long.around(long.log[len(long.log)-1])
	long.around(long.log[len(long.log)-1-1<<16])
	long.quick()
}

// 21.1: a number by which the mixed one is 0: the tag is 1, and is known, and not 0.
func TestTagOne(t *testing.T) {
	for owner := range last + 1 {
		b := newBoth(t)
		for epoch := 1; epoch <= 600; epoch++ {
			got := b.issueOf(owner, uint64(256*epoch+owner))
			if want := (issued{owner, epoch, 1}); got != want {
				t.Fatalf("%v was issued, not %v", got, want)
			}
			if !b.x.Knows(owner, epoch, 1) || b.x.Knows(owner, epoch, 0) || b.x.Knows(owner, epoch-1, 1) || b.x.Knows(owner, epoch+1, 1) {
				t.Fatalf("what is known of owner %d, epoch %d, is wrong", owner, epoch)
			}
			b.around(got)
			if epoch%7 == 0 {
				b.revoke(owner)
				b.around(got)
			}
		}
	}
}

// 21.1: only the mixed number 0 is told as 1: each other one is told as it is, those about 1 and 0, too.
func TestTagsAboutOne(t *testing.T) {
	b := newBoth(t)
	for epoch := 1; epoch <= 40; epoch++ {
		for owner := range last + 1 {
			got := b.issueOf(owner, uint64(256*epoch+owner)^uint64(1)<<(epoch+owner))
			if got.tag == 0 || got.tag == 1 {
				t.Fatalf("the tag %d of a mixed number that is none such", got.tag)
			}
			if !b.x.Knows(owner, got.epoch, got.tag) {
				t.Fatal("the tag that was issued is not known")
			}
		}
	}
	b.quick()
}

// 21.1: the same number twice: to one owner, its tags are different; to two owners, too.
func TestSameNumber(t *testing.T) {
	for _, n := range numbers() {
		b := newBoth(t)
		seen := map[uint64]bool{}
		for range 3 {
			for owner := range last + 1 {
				seen[b.issueOf(owner, n).tag] = true
			}
		}
		if len(seen) != 3*(last+1) {
			t.Errorf("of %d come %d tags", n, len(seen))
		}
		b.quick()
	}
}

// 21.1: one tag twice, in two epochs of one owner: it is known with the one of now alone.
func TestSameTag(t *testing.T) {
	for owner := range last + 1 {
		b := newBoth(t)
		first := b.issueOf(owner, 1000)
		n := uint64(1000)
		for epoch := 2; epoch < 300; epoch++ {
			n ^= uint64(256*(epoch-1)+owner) ^ uint64(256*epoch+owner)
			got := b.issueOf(owner, n)
			if got.tag != first.tag {
				t.Fatalf("the tag is %d, not %d", got.tag, first.tag)
			}
			for e := -1; e < epoch+2; e++ {
				if b.x.Knows(owner, e, first.tag) != (e == epoch) {
					t.Fatalf("in epoch %d: Knows of epoch %d", epoch, e)
				}
			}
		}
		b.quick()
	}
}

// 21.1: one tag of two owners: each is known as its own, by its own epoch, and stays when the other one's goes.
func TestSameTagOfTwo(t *testing.T) {
	for one := range last + 1 {
		for two := range last + 1 {
			if one == two {
				continue
			}
			b := newBoth(t)
			b.issueOf(two, 3)
			b.issueOf(two, 4)
			a := b.issueOf(one, 1000)
			c := b.issueOf(two, 1000^uint64(256+one)^uint64(768+two))
			if a.tag != c.tag || a.epoch == c.epoch {
				t.Fatalf("%v and %v should be of one tag", a, c)
			}
			b.all()
			b.revoke(one)
			b.all()
			if !b.x.Knows(two, 3, c.tag) || b.x.Knows(one, 1, a.tag) || b.x.Knows(one, 3, a.tag) {
				t.Fatalf("what is known of %d and %d is wrong", one, two)
			}
			b.revoke(two)
			b.all()
		}
	}
}

// 21.1: an earlier tag with the epoch of now, the tag of now with an earlier epoch: both are unknown, all ways round.
func TestEarlier(t *testing.T) {
	for owner := range last + 1 {
		b := newBoth(t)
		for i := range 20 {
			b.issueOf(owner, uint64(i)<<uint(3*i))
			if i%3 == 2 {
				b.issueOf((owner+4)%(last+1), uint64(i))
			}
			b.all()
		}
		b.revoke(owner)
		b.all()
	}
}

// 21.1: a Revoke: once, twice, of an owner that never had a tag, and an Issue behind it.
func TestRevoke(t *testing.T) {
	for owner := range last + 1 {
		b := newBoth(t)
		b.revoke(owner)
		b.all()
		for round := 1; round < 6; round++ {
			for range round {
				b.issueOf(owner, uint64(round))
				b.all()
			}
			for range round {
				b.revoke(owner)
				b.all()
			}
		}
		if n := b.x.Epoch(owner); n != 15 {
			t.Errorf("Epoch(%d) = %d, not 15", owner, n)
		}
	}
}

// 21.1: a tag 0 is never known: of no owner, one that never had a tag, one that has one, one that was revoked, with its own epoch, too.
func TestTagZero(t *testing.T) {
	x, d := New(), dice.New()
	none := func() {
		t.Helper()
		for owner := -1; owner <= last+1; owner++ {
			for epoch := -1; epoch < 6; epoch++ {
				if x.Knows(owner, epoch, 0) {
					t.Fatalf("Knows(%d, %d, 0)", owner, epoch)
				}
			}
		}
	}
	none()
	for round := range 4 {
		for owner := range last + 1 {
			d.Put(uint64(owner * round))
			x.Issue(owner, d)
			none()
		}
		for owner := range last + 1 {
			if x.Revoke(owner) != api.OK {
				t.Fatal("no Revoke")
			}
			none()
			if x.Knows(owner, x.Epoch(owner), 0) {
				t.Fatalf("the tag 0 of %d, with its own epoch, is known", owner)
			}
		}
	}
}

// filled are a table and dice where some owners have tags, some were revoked, and some never had one.
func filled(t *testing.T) *both {
	b := newBoth(t)
	for i, owner := range []int{1, 8, 1, 3, 5, 8, 1, 0, 3} {
		b.issueOf(owner, uint64(i)*0x9e3779b97f4a7c15)
	}
	b.revoke(3)
	b.revoke(5)
	return b
}

// 21.1, R2: numbers of no owner: ErrForm of Issue and Revoke, whatever dice there are; nothing is known of them, and nothing is changed.
func TestWrongOwners(t *testing.T) {
	b := filled(t)
	for range 2 {
		for _, owner := range wrongOwners {
			before := *b.x
			b.issue(owner)
			b.revoke(owner)
			if epoch, tag, e := b.x.Issue(owner, nil); epoch != 0 || tag != 0 || e != api.ErrForm {
				t.Errorf("Issue(%d, nil) = %d, %d, %v", owner, epoch, tag, e)
			}
			if n := b.x.Epoch(owner); n != 0 {
				t.Errorf("Epoch(%d) = %d", owner, n)
			}
			for _, l := range b.log {
				b.knows(owner, l.epoch, l.tag)
			}
			for epoch := -1; epoch < 4; epoch++ {
				b.knows(owner, epoch, 0)
				b.knows(owner, epoch, 1)
			}
			if *b.x != before {
				t.Errorf("the table was changed by owner %d", owner)
			}
			b.all()
		}
		// The second round is with numbers in the dice.
		b.draw(3)
		b.draw(4)
	}
	b.issue(3)
	b.issue(2)
	b.all()
}

// 21.1, R2: dice without numbers, and nil dice: ErrState, and nothing is changed.
func TestNoNumbers(t *testing.T) {
	b := filled(t)
	var zero dice.Dice
	for owner := range last + 1 {
		for _, d := range []*dice.Dice{nil, dice.New(), &zero, b.d} {
			before := *b.x
			if epoch, tag, e := b.x.Issue(owner, d); epoch != 0 || tag != 0 || e != api.ErrState {
				t.Errorf("Issue(%d) without numbers = %d, %d, %v", owner, epoch, tag, e)
			}
			if *b.x != before || d.Left() != 0 {
				t.Errorf("something was changed by owner %d", owner)
			}
			b.all()
		}
	}
	b.issueOf(1, 3)
	b.issueOf(5, 3)
	b.issueOf(7, 3)
	b.all()
}

// 21.1: a table that is nil answers ErrState, ErrState, false, 0, whatever it is asked, and takes no number.
func TestNil(t *testing.T) {
	var x *Table
	d := dice.New()
	d.Put(7)
	owners := append([]int{0, 1, 4, last}, wrongOwners...)
	for _, owner := range owners {
		for _, some := range []*dice.Dice{nil, dice.New(), d} {
			if epoch, tag, e := x.Issue(owner, some); epoch != 0 || tag != 0 || e != api.ErrState {
				t.Errorf("Issue(%d) of nil = %d, %d, %v", owner, epoch, tag, e)
			}
		}
		if e := x.Revoke(owner); e != api.ErrState {
			t.Errorf("Revoke(%d) of nil = %v", owner, e)
		}
		for epoch := -1; epoch < 3; epoch++ {
			for _, tag := range []uint64{0, 1, wordsTag(7, 1, owner&7)} {
				if x.Knows(owner, epoch, tag) {
					t.Errorf("Knows(%d, %d, %d) of nil", owner, epoch, tag)
				}
			}
		}
		if n := x.Epoch(owner); n != 0 {
			t.Errorf("Epoch(%d) of nil = %d", owner, n)
		}
	}
	if n, ok := d.Take(); n != 7 || !ok {
		t.Errorf("the dice have %d, %v left", n, ok)
	}
}

// 21.1: a table that no call made is as New's, however it comes to be.
func TestNotMade(t *testing.T) {
	var one Table
	var row [2]Table
	var within struct {
		ahead  uint64
		x      Table
		behind uint64
	}
	for i, x := range []*Table{&one, {}, new(Table), &row[0], &row[1], &within.x} {
		b, c := of(t, x), newBoth(t)
		b.all()
		for owner := range last + 1 {
			b.revoke(owner)
			b.issue(owner)
		}
		for owner := range last + 1 {
			if b.issueOf(owner, uint64(i+owner)) != c.issueOf(owner, uint64(i+owner)) {
				t.Errorf("%d: not as New's", i)
			}
		}
		b.all()
		b.revoke(i)
		b.all()
	}
	if within.ahead != 0 || within.behind != 0 {
		t.Error("what stands beside a table was changed")
	}
}

// 21.2: behind an Issue, and behind a Revoke, all others stay as they were: for each two owners.
func TestOthersStay(t *testing.T) {
	for one := range last + 1 {
		for two := range last + 1 {
			if one == two {
				continue
			}
			b := newBoth(t)
			b.issueOf(one, 11)
			kept := b.issueOf(two, 12)
			for i := range 4 {
				if i%2 == 0 {
					b.issueOf(one, uint64(i))
				} else {
					b.revoke(one)
				}
				if !b.x.Knows(two, kept.epoch, kept.tag) || b.x.Epoch(two) != 1 {
					t.Fatalf("%d was changed by %d", two, one)
				}
				b.all()
			}
			b.revoke(two)
			b.all()
			b.issueOf(one, 13)
			if b.x.Knows(two, kept.epoch, kept.tag) || b.x.Epoch(two) != 1 {
				t.Fatalf("%d was changed by %d", two, one)
			}
			b.all()
		}
	}
}

// 21.2: all short rows of steps of two owners, with numbers and without.
func TestAllShortSteps(t *testing.T) {
	const steps, kinds = 6, 6
	for _, pair := range [][2]int{{0, 1}, {1, 8}, {8, 0}} {
		rows := 1
		for range steps {
			rows *= kinds
		}
		for row := range rows {
			b := newBoth(t)
			for i := range steps {
				switch row % kinds {
				case 0:
					b.issueOf(pair[0], uint64(i))
				case 1:
					b.issueOf(pair[1], uint64(i))
				case 2:
					b.revoke(pair[0])
				case 3:
					b.revoke(pair[1])
				case 4:
					b.issue(pair[0])
				case 5:
					b.issue(last + 1)
				}
				row /= kinds
				b.quick()
			}
		}
	}
}

// 21.2: steps by chance, of all owners and of none, with few tags and with many.
func TestByChance(t *testing.T) {
	r := rand.New(rand.NewSource(21))
	for range 150 {
		b := newBoth(t)
		share := 1 + r.Intn(9)
		for range 60 {
			owner := r.Intn(last+4) - 1
			switch k := r.Intn(10); {
			case k >= share:
				b.revoke(owner)
			case k == 0:
				b.issue(owner)
			default:
				if len(b.left) < 60 {
					b.draw([]uint64{r.Uint64(), uint64(r.Intn(2600)), uint64(256*(b.epochs[owner]+1) + max(owner, 0))}[r.Intn(3)])
				}
				b.issue(owner)
			}
			b.quick()
		}
		b.all()
	}
}

// 21.2: two tables have nothing to do with one another, with dice of their own, and with the same dice.
func TestTwoTables(t *testing.T) {
	b, c := newBoth(t), newBoth(t)
	for i := range 50 {
		b.issueOf(i%(last+1), uint64(i))
		b.all()
		c.all()
		if i%3 == 0 {
			c.issueOf(i%4, uint64(i))
			c.revoke(i % 5)
		}
		b.all()
		c.all()
	}
	d, x, y := dice.New(), New(), New()
	for _, n := range []uint64{1, 2, 3, 4} {
		d.Put(n)
	}
	for i, z := range []*Table{x, y, x, y} {
		epoch, tag, e := z.Issue(6, d)
		if epoch != 1+i/2 || tag != wordsTag(uint64(i+1), epoch, 6) || e != api.OK || d.Left() != 3-i {
			t.Errorf("Issue number %d = %d, %d, %v", i, epoch, tag, e)
		}
	}
	if x.Revoke(6) != api.OK || !y.Knows(6, 2, wordsTag(4, 2, 6)) || y.Knows(6, 2, wordsTag(3, 2, 6)) || y.Epoch(6) != 2 {
		t.Error("one table has to do with another")
	}
}

// 21.1: numbers come from the dice in their order, each once, whoever is issued a tag.
func TestDiceOrder(t *testing.T) {
	b := newBoth(t)
	for n := range uint64(64) {
		b.draw(n * 0x9e3779b97f4a7c15)
	}
	for i := range 70 {
		b.issue(i * 5 % (last + 1))
		b.issue(last + 1 + i)
		b.revoke(i % 4)
	}
	b.all()
	if b.d.Left() != 0 || len(b.log) != 64 {
		t.Errorf("%d numbers are left, %d tags were issued", b.d.Left(), len(b.log))
	}
}

// R5: what is asked changes nothing, and the same steps have the same answers.
func TestAgain(t *testing.T) {
	b, c := filled(t), filled(t)
	before := *b.x
	for range 3 {
		b.all()
		b.issue(-1)
		b.issue(2)
		b.revoke(2)
	}
	if *b.x != before || *b.x != *c.x {
		t.Error("what was asked changed the table")
	}
	for i, l := range b.log {
		if c.log[i] != l {
			t.Errorf("number %d is %v, and then %v", i, l, c.log[i])
		}
	}
}

// R5: tables used at one time by many: each has its own alone.
func TestAtOnce(t *testing.T) {
	var w sync.WaitGroup
	wrong := make([]int, 8)
	for g := range wrong {
		w.Go(func() {
			x, d := New(), dice.New()
			for i := 1; i <= 500; i++ {
				d.Put(uint64(i<<8 | g))
				epoch, tag, e := x.Issue(g, d)
				if epoch != i || e != api.OK || tag != wordsTag(uint64(i<<8|g), i, g) || !x.Knows(g, epoch, tag) || x.Epoch((g+1)%9) != 0 {
					wrong[g]++
				}
			}
		})
	}
	w.Wait()
	for g, n := range wrong {
		if n != 0 {
			t.Errorf("%d answers of table %d were wrong", n, g)
		}
	}
}

// What was issued ahead, and what was revoked, is kept no more.
func TestNothingKept(t *testing.T) {
	b := filled(t)
	if n := len(b.x.owners); n != last+1 {
		t.Errorf("%d owners are kept", n)
	}
	for owner := range last + 1 {
		kept := b.x.owners[owner]
		if now := b.now[owner]; kept.tag != now.tag || kept.epoch != b.epochs[owner] {
			t.Errorf("of %d is kept %v", owner, kept)
		}
	}
}

func FuzzMac(f *testing.F) {
	f.Add("", uint64(0), uint64(0))
	f.Add("\x01\x11\x41\x02\x18", uint64(257), uint64(1))
	f.Add("\x00\x08\x10\x48\x18", uint64(math.MaxUint64), uint64(256))
	f.Fuzz(func(t *testing.T, steps string, a, c uint64) {
		if len(steps) > 200 {
			return
		}
		b := newBoth(t)
		for i := range len(steps) {
			owner := int(steps[i]&15) - 2
			switch steps[i] >> 4 & 3 {
			case 0, 3:
				if len(b.left) < 60 {
					b.draw(a + c*uint64(i))
				}
				b.issue(owner)
			case 1:
				b.revoke(owner)
			case 2:
				b.issue(owner)
			}
			b.quick()
		}
		b.all()
	})
}
