package codec

import (
	"swingbridge/api"
	"swingbridge/octet"
	"swingbridge/reading"
)

// kind is how the values of one Type that are not null are laid, and read, in columns of a Size of theirs, and how many bytes they have then.
type kind struct {
	lay   func(size int, v api.Value) []byte
	read  func(r *reading.Reader, size int) api.Value
	width func(size int) (least, most int)
}

func kinds() map[api.TypeKind]kind {
	return map[api.TypeKind]kind{
		api.TypeInt:   {layInt, readInt, widthNumber},
		api.TypeUint:  {layUint, readUint, widthNumber},
		api.TypeBool:  {layBool, readBool, widthBool},
		api.TypeBytes: {layBytes, readBytes, widthBytes},
	}
}

// layNumber lays a number's lowest bytes: of one below 0 these are those of 2^(8 Size) more.
func layNumber(size int, n uint64) []byte {
	gap := numberBits - byteBits*size
	b, _ := octet.Fixed(n<<gap>>gap, size) // what is left has no more bytes
	return b
}

func widthNumber(size int) (least, most int) { return size, size }

func layInt(size int, v api.Value) []byte { return layNumber(size, uint64(v.Int)) }

func readInt(r *reading.Reader, size int) api.Value {
	return api.Value{Kind: api.ValueInt, Int: fixed[int64](r, size)}
}

func layUint(size int, v api.Value) []byte { return layNumber(size, v.Uint) }

func readUint(r *reading.Reader, size int) api.Value {
	return api.Value{Kind: api.ValueUint, Uint: fixed[uint64](r, size)}
}

func layBool(_ int, v api.Value) []byte { return []byte{byte(v.Int)} }

func readBool(r *reading.Reader, _ int) api.Value {
	return api.Value{Kind: api.ValueBool, Int: int64(bit(r))}
}

func widthBool(int) (least, most int) { return 1, 1 }

func layBytes(_ int, v api.Value) []byte { return octet.Text(v.Bytes) }

func readBytes(r *reading.Reader, size int) api.Value {
	return api.Value{Kind: api.ValueBytes, Bytes: r.Text(size)}
}

func widthBytes(size int) (least, most int) {
	return len(octet.Text("")), len(octet.Number(uint64(size))) + size
}
