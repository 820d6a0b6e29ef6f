// Package value is layer 1: values that columns hold, their order, and their texts (see shared/doc/01-value.md).
package value

import (
	"cmp"
	"iter"
	"strings"

	"swingbridge/api"
	"swingbridge/refusal"
)

// apart stands between the values of a row's text. No value's text has a comma, so it parts nothing else.
const apart = ", "

// Check tells whether a value may be: ErrArg, ErrLong, or OK.
func Check(v api.Value) api.Errno { return refusal.Errno(check(v)) }

// Order tells -1, 0 or 1. What a Kind does not name is zero in every value that may be, so one order of all fields is that of both the values that may be and those that may not.
func Order(a, b api.Value) int {
	return cmp.Or(
		cmp.Compare(a.Kind, b.Kind),
		cmp.Compare(a.Int, b.Int),
		cmp.Compare(a.Uint, b.Uint),
		cmp.Compare(a.Bytes, b.Bytes),
	)
}

// Lists orders lists of values: by the first ones that are unlike, else by their lengths.
func Lists(a, b []api.Value) int { return hold(a, b, Order) }

// Text tells a value's text: ErrArg, ErrLong.
func Text(v api.Value) (string, api.Errno) {
	s, err := text(v)
	return s, refusal.Errno(err)
}

// Parse tells the value whose text s is: ErrText, ErrLong.
func Parse(s string) (api.Value, api.Errno) {
	v, err := parse(s)
	return v, refusal.Errno(err)
}

// Row tells the texts of values, a comma and a blank between: ErrArg, ErrLong of the first one that is wrong.
func Row(l ...api.Value) (string, api.Errno) {
	texts := make([]string, len(l))
	for i, v := range l {
		s, err := text(v)
		if err != nil {
			return "", refusal.Errno(err)
		}
		texts[i] = s
	}
	return strings.Join(texts, apart), api.OK
}

// Each goes over the values of a row's text, each with its number, up to the first piece that is none.
func Each(s string) iter.Seq2[int, api.Value] {
	return func(yield func(int, api.Value) bool) {
	values:
		for i, piece := range pieces(s) {
			v, err := parse(piece)
			switch {
			case err != nil:
				break values
			case !yield(i, v):
				break values
			}
		}
	}
}

// pieces goes over what stands between the commas and blanks of a text; an empty text is one piece, which is no value's text.
func pieces(s string) iter.Seq2[int, string] {
	return func(yield func(int, string) bool) {
		rest, more := s, true // s itself stays, since it may be gone over again
		for i := 0; more; i++ {
			var piece string
			piece, rest, more = strings.Cut(rest, apart)
			if !yield(i, piece) {
				return
			}
		}
	}
}

// hold holds two lists against each other, thing by thing, by the order that it is handed.
func hold[T any](a, b []T, order func(a, b T) int) int {
	for i, x := range a[:min(len(a), len(b))] {
		if n := order(x, b[i]); n != 0 {
			return n
		}
	}
	return cmp.Compare(len(a), len(b))
}
