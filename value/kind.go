package value

import (
	"concourse/api"
	"concourse/utf"
)

// The greatest number of a VEnum.
const mostEnum = 9999

// kind is what a value of a kind has: each of the ten has a type of its own.
type kind interface {
	// well tells whether it is as a value may have it, whatever its items are.
	well() bool
}

type (
	boolean int64
	integer int64
	natural uint64
	enum    int64
	text    string
	octets  string
	list    []api.Value
	table   []api.Value
	record  struct{ tagged }
	union   struct{ tagged }
)

// tagged are tags, and items by them.
type tagged struct {
	tags  []int
	items []api.Value
}

// kindOf is what a value has by its kind; nil, if there is no such kind.
func kindOf(v api.Value) kind {
	switch v.Kind {
	case api.VBool:
		return boolean(v.Num)
	case api.VInt:
		return integer(v.Num)
	case api.VUint:
		return natural(v.Num)
	case api.VEnum:
		return enum(v.Num)
	case api.VText:
		return text(v.Text)
	case api.VBytes:
		return octets(v.Text)
	case api.VList:
		return list(v.Items)
	case api.VMap:
		return table(v.Items)
	case api.VStruct:
		return record{tagged{v.Tags, v.Items}}
	case api.VUnion:
		return union{tagged{v.Tags, v.Items}}
	}
	return nil
}

func (x boolean) well() bool { return x == 0 || x == 1 }
func (x integer) well() bool { return true }
func (x natural) well() bool { return true }
func (x enum) well() bool    { return x >= 0 && x <= mostEnum }
func (x text) well() bool    { return utf.Valid(string(x)) }
func (x octets) well() bool  { return true }
func (x list) well() bool    { return true }

func (x table) well() bool {
	for i := 0; i < len(x); i += 2 {
		if !key(x[i]) || i > 0 && !rising(x[i-2], x[i]) {
			return false
		}
	}
	return len(x)%2 == 0
}

// key tells whether a value is of a kind that a map's keys may have.
func key(v api.Value) bool {
	switch kindOf(v).(type) {
	case boolean, integer, natural, enum, text:
		return true
	}
	return false
}

// rising tells whether one key may stand behind another one.
func rising(ahead, behind api.Value) bool {
	return ahead.Kind == behind.Kind && Cmp(ahead, behind) < 0
}

func (x tagged) well() bool {
	last := 0
	for _, tag := range x.tags {
		if tag <= last || tag > api.MaxTag {
			return false
		}
		last = tag
	}
	return len(x.tags) == len(x.items)
}

func (x union) well() bool { return len(x.tags) == 1 && x.tagged.well() }
