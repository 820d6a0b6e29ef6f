package codec

import (
	"swingbridge/api"
	"swingbridge/octet"
	"swingbridge/reading"
	"swingbridge/refusal"
)

const (
	byteBits   = 8  // bits of a byte
	numberBits = 64 // bits of a value's number
)

// bit takes a byte that is 0 or 1.
func bit(r *reading.Reader) byte {
	b := r.Take(1)[0]
	if b > 1 {
		refusal.GiveUp("a byte that is neither 0 nor 1", api.ErrCode)
	}
	return b
}

// fixed takes a number of so many bytes. Up and down again, what is above it becomes as its highest bit, if it has a sign, and else 0.
func fixed[N int64 | uint64](r *reading.Reader, size int) N {
	n, _ := octet.ReadFixed(r.Take(size)) // a column's Size is one that it takes
	gap := numberBits - byteBits*size
	return N(n) << gap >> gap
}
