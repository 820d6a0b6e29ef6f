package key

import (
	"math"

	"swingbridge/api"
	"swingbridge/octet"
)

// How many bytes numbers have.
const (
	kindBytes  = 1
	intBytes   = 8
	uintBytes  = 1 + 8 // at most
	truthBytes = 1
)

// turn has just the highest bit of a number with a sign: turned over, it lets those below 0 stand ahead of the others.
const turn = math.MinInt64

// kind is how what stands behind the number of one Kind is laid, and read.
type kind struct {
	lay  func(v api.Value) []byte
	read func(r *reader) api.Value
}

func kinds() map[api.ValueKind]kind {
	return map[api.ValueKind]kind{
		api.ValueNull:  {layNull, readNull},
		api.ValueInt:   {layInt, readInt},
		api.ValueUint:  {layUint, readUint},
		api.ValueBool:  {layBool, readBool},
		api.ValueBytes: {layBytes, readBytes},
	}
}

// tell tells a number in so many bytes; it has no more.
func tell[N ~int | int64](n N, many int) []byte {
	b, _ := octet.Fixed(uint64(n), many)
	return b
}

func layNull(api.Value) []byte { return nil }

func readNull(*reader) api.Value { return api.Value{} }

func layInt(v api.Value) []byte { return tell(v.Int^turn, intBytes) }

func readInt(r *reader) api.Value {
	return api.Value{Kind: api.ValueInt, Int: fixed[int64](r, intBytes) ^ turn}
}

func layUint(v api.Value) []byte { return octet.Number(v.Uint) }

func readUint(r *reader) api.Value { return api.Value{Kind: api.ValueUint, Uint: r.number()} }

func layBool(v api.Value) []byte { return tell(v.Int, truthBytes) }

func readBool(r *reader) api.Value {
	n := fixed[int64](r, truthBytes)
	if n > 1 {
		panic(none("a truth that is neither 0 nor 1"))
	}
	return api.Value{Kind: api.ValueBool, Int: n}
}
