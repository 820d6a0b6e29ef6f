package event

import (
	"math"

	"swingbridge/api"
	"swingbridge/codec"
	"swingbridge/key"
	"swingbridge/octet"
	"swingbridge/reading"
	"swingbridge/refusal"
	"swingbridge/schema"
	"swingbridge/value"
)

const (
	mostPairs = 4           // of names that a rename has
	anyLength = math.MaxInt // of texts whose own bytes bound them
)

// way is how things of one sort are asked for, laid, and read.
type way[T any] struct {
	mayBe func(T) bool
	lay   func(T) []byte
	read  func(r *reading.Reader) T
}

// few asks for one thing at least, and at most so many, each of which may be. It asks for the bound first: a list that is too long is not gone through.
func few[T any](l []T, most int, mayBe func(T) bool) bool {
	if len(l) < 1 || len(l) > most {
		return false
	}
	for _, t := range l {
		if !mayBe(t) {
			return false
		}
	}
	return true
}

// isName asks of a column of that name whether null fits it, as it does if that column may be: tables are named as columns are.
func isName(s string) bool {
	return schema.Fits(api.Column{Name: s, Type: api.TypeBool, Null: true}, api.Value{}) == api.OK
}

func readName(r *reading.Reader) string { return r.Text(api.MaxName) }

func isSchema(s api.Schema) bool { return schema.Check(s) == api.OK }

func laySchema(s api.Schema) []byte {
	b, _ := codec.EncodeSchema(s) // it may be
	return octet.Text(string(b))
}

func readSchema(r *reading.Reader) api.Schema {
	return refusal.Told(codec.DecodeSchema([]byte(r.Text(anyLength))))
}

func isValue(v api.Value) bool { return value.Check(v) == api.OK }

func isRow(row []api.Value) bool { return few(row, api.MaxColumns, isValue) }

func layRow(row []api.Value) []byte {
	s, _ := key.Encode(row...) // so few values are never too long for one
	return octet.Text(s)
}

func readRow(r *reading.Reader) []api.Value { return refusal.Told(key.Decode(r.Text(api.MaxKey))) }

func isPair(names [2]string) bool { return isName(names[0]) && isName(names[1]) }

func arePairs(l [][2]string) bool { return few(l, mostPairs, isPair) }

func layPairs(l [][2]string) []byte {
	b := octet.Number(uint64(len(l)))
	for _, names := range l {
		b = append(b, octet.Text(names[0])...)
		b = append(b, octet.Text(names[1])...)
	}
	return b
}

func readPairs(r *reading.Reader) [][2]string { return reading.Several(r, mostPairs, readPair) }

func readPair(r *reading.Reader) [2]string { return [2]string{readName(r), readName(r)} }
