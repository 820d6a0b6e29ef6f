package octet

import "math/bits"

// Doubled three times from one bit on.
const (
	_ = 1 << iota
	_
	_
	byteBits // how many bits a byte has
)

const (
	longest  = 8          // the most bytes that a number needs
	feedback = 0x82f63b78 // what a sum's lowest bit lays on as it goes
)

// size tells how many bytes a number needs; 0 needs none.
func size(n uint64) int { return (bits.Len64(n) + byteBits - 1) / byteBits }

// tell hands a number's lowest many bytes on, the highest first.
func tell[N int | uint64](n N, many int, put func(byte)) {
	for i := many - 1; i >= 0; i-- {
		put(byte(n >> (byteBits * i)))
	}
}

// lay tells a number's bytes, with spare room for what its caller lays behind them.
func lay[N int | uint64](n N, spare int) []byte {
	many := size(uint64(n))
	b := make([]byte, 0, 1+many+spare)
	put := func(x byte) { b = append(b, x) }
	tell(many, 1, put)
	tell(n, many, put)
	return b
}

// join tells the number whose bytes are given, the highest first; there are at most as many as a number has.
func join(b []byte) uint64 {
	n := uint64(0)
	for _, x := range b {
		n = n<<byteBits | uint64(x)
	}
	return n
}
