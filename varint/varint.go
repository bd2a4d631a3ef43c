// Package varint is layer 1: see shared/doc/01-varint.md.
package varint

import (
	"math/bits"

	"concourse/api"
)

const (
	width = 7          // bits of a number that a byte has
	more  = 1 << width // the bit that says that another byte follows
	low   = more - 1   // the bits that are the number's own
	most  = 10         // bytes of a number, at most
)

// Put is a number's bytes.
func Put(n uint64) string {
	var b [most]byte
	k := 0
bytes:
	for {
		switch {
		case n > low:
			b[k] = byte(n) | more
			n >>= width
			k++
		default:
			b[k] = byte(n)
			break bytes
		}
	}
	return string(b[:k+1])
}

// Take is the number with whose bytes a text begins.
func Take(b string) (uint64, int, api.Errno) {
	var n uint64
	for i := range min(len(b), most) {
		n |= uint64(b[i]&low) << (i * width)
		if b[i] < more {
			if !ends(b[i], i) {
				return 0, 0, api.ErrForm
			}
			return n, i + 1, api.OK
		}
	}
	if len(b) < most {
		return 0, 0, api.ErrShort
	}
	return 0, 0, api.ErrForm
}

// ends tells whether a byte may be a number's last one at a place.
func ends(c byte, at int) bool {
	if at == 0 {
		return true
	}
	// Of a tenth byte one bit is left: nine bytes have 63.
	return c != 0 && (at < most-1 || c == 1)
}

// Len is how many bytes a number has.
func Len(n uint64) int {
	// 0 has a byte too, as if it had a bit.
	return (bits.Len64(n|1) + width - 1) / width
}

// Turn is a number with a sign as one without.
func Turn(n int64) uint64 {
	// The shifted sign is all ones below 0: then 2n is turned over to -2n - 1.
	return uint64(n)<<1 ^ uint64(n>>63)
}

// Back is a number without a sign as one with a sign.
func Back(n uint64) int64 {
	return int64(n>>1) ^ -int64(n&1)
}

// PutInt is the bytes of a number with a sign.
func PutInt(n int64) string {
	return Put(Turn(n))
}

// TakeInt is the number with a sign with whose bytes a text begins.
func TakeInt(b string) (int64, int, api.Errno) {
	n, k, e := Take(b)
	return Back(n), k, e
}
