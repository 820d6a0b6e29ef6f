package convert

import "strconv"

const (
	base       = 10 // of the digits
	byteBits   = 8  // bits of a byte
	numberBits = 64 // bits of a value's number
)

func tellInt(n int64) string { return strconv.FormatInt(n, base) }

func tellUint(n uint64) string { return strconv.FormatUint(n, base) }

func parseInt(s string) (int64, error) { return strconv.ParseInt(s, base, numberBits) }

func parseUint(s string) (uint64, error) { return strconv.ParseUint(s, base, numberBits) }

// read reads the number whose digits a text is. What is parsed is told again, since numbers are parsed that are written otherwise (noughts ahead, +, -0).
func read[N int64 | uint64](s string, parse func(string) (N, error), tell func(N) string) (N, bool) {
	n, err := parse(s)
	if err != nil || tell(n) != s {
		return 0, false
	}
	return n, true
}
