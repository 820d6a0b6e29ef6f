package value

import "strings"

// figures are digits to the base 16; its first ten are those to the base 10.
const figures = "0123456789abcdef"

// taker takes a text's digits from the left, one a call. It answers false at what is no digit to that base, and at the end.
func taker(s string, base int) func() (uint64, bool) {
	at := 0
	return func() (uint64, bool) {
		if at >= len(s) {
			return 0, false
		}
		d := strings.IndexByte(figures[:base], s[at])
		at++
		return uint64(max(d, 0)), d >= 0
	}
}

// number reads a number up to most as numbers are written: digits alone, no noughts ahead.
func number(s string, most uint64) (uint64, bool) {
	if s == "" || len(s) > 1 && s[0] == '0' {
		return 0, false
	}
	take := taker(s, 10)
	n := uint64(0)
	for range len(s) {
		d, ok := take()
		if !ok || n > (most-d)/10 {
			return 0, false
		}
		n = n*10 + d
	}
	return n, true
}

// pairs reads bytes of two digits each.
func pairs(s string) ([]byte, bool) {
	take := taker(s, 16)
	b := make([]byte, 0, len(s)/2)
	for range len(s) / 2 {
		high, is := take()
		low, ok := take()
		if !is || !ok {
			return nil, false
		}
		b = append(b, byte(high<<4|low))
	}
	return b, len(s)%2 == 0
}
