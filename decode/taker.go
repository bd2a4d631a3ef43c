package decode

import (
	"cmp"
	"slices"
	"strings"

	"concourse/api"
	"concourse/desc"
	"concourse/key"
	"concourse/varint"
)

// Every value costs so much, whatever it has.
const bareCost = 8

// maker is what all of one call share.
type maker struct {
	schema *desc.Desc
	rows   map[string][]api.Field // of the declarations that were come to: the schema would make a copy each time
	room   int                    // what may be made yet
}

// pay takes of the room what something costs.
func (m *maker) pay(cost int) {
	if cost > m.room {
		throw(api.ErrFull)
	}
	m.room -= cost
}

// row is a declaration's row of a tag. A number without a sign, so that none that is read becomes another one.
func (m *maker) row(name string, tag uint64) (api.Field, bool) {
	rows := m.rowsOf(name)
	i, ok := slices.BinarySearchFunc(rows, tag, func(f api.Field, tag uint64) int { return cmp.Compare(uint64(f.Tag), tag) })
	if !ok {
		return api.Field{}, false
	}
	return rows[i], true
}

// rowsOf are a declaration's rows.
func (m *maker) rowsOf(name string) []api.Field {
	l, ok := m.rows[name]
	if !ok {
		l = m.schema.Rows(name)
		m.rows[name] = l
	}
	return l
}

// taker takes what stands in an inside from the front on.
type taker struct {
	*maker
	left   string
	within int // how many values those that are taken stand within
}

// inner takes what stands in the inside of a value that this one took.
func (k *taker) inner(inside string) *taker {
	return &taker{k.maker, inside, k.within + 1}
}

// begin makes a value, of which nothing but its place is known.
func (k *taker) begin() {
	if k.within >= api.MaxDeep {
		throw(api.ErrDeep)
	}
	k.pay(bareCost)
}

// next takes so many bytes.
func (k *taker) next(n int) string {
	b := k.left[:n]
	k.left = k.left[n:]
	return b
}

// number takes a number.
func (k *taker) number() uint64 {
	n, size, e := varint.Take(k.left)
	must(e)
	k.next(size)
	return n
}

// span takes a span's text.
func (k *taker) span() string {
	n := k.number()
	// Without a sign, so that lengths that no int can hold are too great as well.
	if n > uint64(len(k.left)) {
		throw(api.ErrShort)
	}
	return k.next(int(n))
}

// text takes a span's text, which is made.
func (k *taker) text() string {
	s := k.span()
	k.pay(len(s))
	// A copy: a piece of the bytes would keep all of them.
	return strings.Clone(s)
}

// key takes a field's key: its tag and its wire.
func (k *taker) key() (int, int) {
	tag, wire, size, e := key.Take(k.left)
	must(e)
	k.next(size)
	return tag, wire
}

// skip takes a field's content, whatever it is.
func (k *taker) skip(wire int) {
	size, e := key.Skip(k.left, wire)
	must(e)
	k.next(size)
}
