package value

import (
	"strconv"

	"concourse/api"
)

const digits = "0123456789abcdef"

// Text is a value's text.
func Text(v api.Value) string {
	if endless(v) {
		return ""
	}
	return string(tell(nil, v))
}

// tell puts a value's text behind b.
func tell(b []byte, v api.Value) []byte {
	switch x := kindOf(v).(type) {
	case boolean:
		return strconv.AppendBool(b, x != 0)
	case integer:
		return strconv.AppendInt(b, int64(x), 10)
	case natural:
		return strconv.AppendUint(b, uint64(x), 10)
	case enum:
		return strconv.AppendInt(b, int64(x), 10)
	case text:
		return quote(b, string(x))
	case octets:
		return quote(b, string(x))
	case list:
		return within(b, "[]", x, comma)
	case table:
		return within(b, "{}", x, colon)
	case record:
		return within(b, "()", x.items, x.tag)
	case union:
		return within(b, "<>", x.items, x.tag)
	}
	return append(b, '?')
}

// within puts items between two signs, and ahead of each what stands ahead of the item of that place.
func within(b []byte, signs string, l []api.Value, ahead func(b []byte, i int) []byte) []byte {
	b = append(b, signs[0])
	for i, x := range l {
		b = tell(ahead(b, i), x)
	}
	return append(b, signs[1])
}

// comma puts what stands ahead of an item of a list.
func comma(b []byte, i int) []byte {
	if i == 0 {
		return b
	}
	return append(b, ',')
}

// colon puts what stands ahead of a key, or of a value, of a map.
func colon(b []byte, i int) []byte {
	if i%2 == 1 {
		return append(b, ':')
	}
	return comma(b, i)
}

// tag puts what stands ahead of an item that has a tag; the items that are more than tags have the tag 0.
func (x tagged) tag(b []byte, i int) []byte {
	n := 0
	if i < len(x.tags) {
		n = x.tags[i]
	}
	return append(strconv.AppendInt(comma(b, i), int64(n), 10), '=')
}

// quote puts a text's bytes between quotes.
func quote(b []byte, s string) []byte {
	b = append(b, '"')
	for i := range len(s) {
		b = char(b, s[i])
	}
	return append(b, '"')
}

// char puts a byte itself, or what tells it.
func char(b []byte, c byte) []byte {
	if c >= ' ' && c <= '~' && c != '"' && c != '\\' {
		return append(b, c)
	}
	return append(b, '\\', digits[c>>4], digits[c&15])
}
