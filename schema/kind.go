package schema

import (
	"math"

	"swingbridge/api"
	"swingbridge/refusal"
	"swingbridge/value"
)

const (
	byteBits   = 8  // bits of a byte
	numberBits = 64 // bits of a value's number
)

// kind is what columns of one Type are like.
type kind struct {
	values api.ValueKind                         // the Kind of their values
	sizes  func(size int) bool                   // is that a Size of theirs?
	bounds func(size int) func(v api.Value) bool // what a Size of theirs holds, asked of values of their Kind
}

type kinds map[api.TypeKind]kind

func types() kinds {
	return kinds{
		api.TypeInt:   {api.ValueInt, numberSize, signed},
		api.TypeUint:  {api.ValueUint, numberSize, unsigned},
		api.TypeBool:  {api.ValueBool, noSize, anything},
		api.TypeBytes: {api.ValueBytes, bytesSize, short},
	}
}

// column asks whether a column may be.
func (k kinds) column(c api.Column) error {
	t, ok := k[c.Type]
	if !ok || !t.sizes(c.Size) || !isName(c.Name) {
		return refusal.Of("a column that may not be", api.ErrArg)
	}
	return nil
}

// fit asks whether a value fits a column that may be.
func (k kinds) fit(c api.Column, v api.Value) error {
	if e := value.Check(v); e != api.OK {
		return refusal.Of("a value that may not be", e)
	}
	t := k[c.Type]
	switch {
	case v.Kind == api.ValueNull && c.Null:
		return nil
	case v.Kind == api.ValueNull:
		return refusal.Of("null, where that may not be", api.ErrNull)
	case v.Kind != t.values:
		return refusal.Of("of another type", api.ErrType)
	case !t.bounds(c.Size)(v):
		return refusal.Of("too great for the column", api.ErrSize)
	}
	return nil
}

// isName asks for the bound first: a name that is too long is not gone through.
func isName(s string) bool {
	if s == "" || len(s) > api.MaxName {
		return false
	}
	for i := range len(s) {
		switch c := s[i]; {
		case c >= 'a' && c <= 'z':
		case c == '_', c >= '0' && c <= '9':
			if i > 0 {
				break
			}
			fallthrough // in the first place these are as wrong there as any other byte
		default:
			return false
		}
	}
	return true
}

func numberSize(size int) bool {
	switch size {
	case 1, 2, 4, 8:
		return true
	}
	return false
}

func noSize(size int) bool { return size == 0 }

func bytesSize(size int) bool { return size >= 1 && size <= api.MaxBytes }

// signed tells both bounds by shifts, since 2^63 is no number with a sign.
func signed(size int) func(api.Value) bool {
	least := int64(-1) << (byteBits*size - 1)
	most := ^least
	return func(v api.Value) bool { return v.Int >= least && v.Int <= most }
}

func unsigned(size int) func(api.Value) bool {
	most := uint64(math.MaxUint64) >> (numberBits - byteBits*size)
	return func(v api.Value) bool { return v.Uint <= most }
}

// anything is the bound of truths: each one that may be is 0 or 1.
func anything(int) func(api.Value) bool { return func(api.Value) bool { return true } }

func short(size int) func(api.Value) bool {
	return func(v api.Value) bool { return len(v.Bytes) <= size }
}
