package convert

import (
	"math"

	"swingbridge/api"
)

// way is how values of one type that are not null become those of another one, and whether none that a Size of the first one holds is too great for a Size of the other one.
type way struct {
	turn func(v api.Value) (w api.Value, ok bool)
	sure func(from, to int) bool
}

type ways map[[2]api.TypeKind]way

func known() ways {
	return ways{
		{api.TypeInt, api.TypeInt}:     {same, noLess},
		{api.TypeInt, api.TypeUint}:    {intToUint, never},
		{api.TypeInt, api.TypeBool}:    {intToBool, never},
		{api.TypeInt, api.TypeBytes}:   {intToBytes, holdsInts},
		{api.TypeUint, api.TypeInt}:    {uintToInt, greater},
		{api.TypeUint, api.TypeUint}:   {same, noLess},
		{api.TypeUint, api.TypeBool}:   {uintToBool, never},
		{api.TypeUint, api.TypeBytes}:  {uintToBytes, holdsUints},
		{api.TypeBool, api.TypeInt}:    {boolToInt, always},
		{api.TypeBool, api.TypeUint}:   {boolToUint, always},
		{api.TypeBool, api.TypeBool}:   {same, noLess},
		{api.TypeBytes, api.TypeInt}:   {bytesToInt, never},
		{api.TypeBytes, api.TypeUint}:  {bytesToUint, never},
		{api.TypeBytes, api.TypeBytes}: {same, noLess},
	}
}

func ofInt(n int64) api.Value { return api.Value{Kind: api.ValueInt, Int: n} }

func ofUint(n uint64) api.Value { return api.Value{Kind: api.ValueUint, Uint: n} }

func ofBytes(s string) api.Value { return api.Value{Kind: api.ValueBytes, Bytes: s} }

// ofBool tells the truth that a number is; no others than 0 and 1 are one.
func ofBool[N int64 | uint64](n N) (api.Value, bool) {
	v := api.Value{Kind: api.ValueBool}
	switch n {
	case 1:
		v.Int = 1
		fallthrough
	case 0:
		return v, true
	}
	return api.Value{}, false
}

func same(v api.Value) (api.Value, bool) { return v, true }

func intToUint(v api.Value) (api.Value, bool) { return ofUint(uint64(v.Int)), v.Int >= 0 }

func intToBool(v api.Value) (api.Value, bool) { return ofBool(v.Int) }

func intToBytes(v api.Value) (api.Value, bool) { return ofBytes(tellInt(v.Int)), true }

func uintToInt(v api.Value) (api.Value, bool) { return ofInt(int64(v.Uint)), v.Uint <= math.MaxInt64 }

func uintToBool(v api.Value) (api.Value, bool) { return ofBool(v.Uint) }

func uintToBytes(v api.Value) (api.Value, bool) { return ofBytes(tellUint(v.Uint)), true }

func boolToInt(v api.Value) (api.Value, bool) { return ofInt(v.Int), true }

func boolToUint(v api.Value) (api.Value, bool) { return ofUint(uint64(v.Int)), true }

func bytesToInt(v api.Value) (api.Value, bool) {
	n, ok := read(v.Bytes, parseInt, tellInt)
	return ofInt(n), ok
}

func bytesToUint(v api.Value) (api.Value, bool) {
	n, ok := read(v.Bytes, parseUint, tellUint)
	return ofUint(n), ok
}

func never(int, int) bool { return false }

func always(int, int) bool { return true }

func noLess(from, to int) bool { return to >= from }

func greater(from, to int) bool { return to > from }

// holdsInts asks for the least number: none has more digits, - among them.
func holdsInts(from, to int) bool {
	return to >= len(tellInt(int64(math.MinInt64)>>(numberBits-byteBits*from)))
}

func holdsUints(from, to int) bool {
	return to >= len(tellUint(uint64(math.MaxUint64)>>(numberBits-byteBits*from)))
}
