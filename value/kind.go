package value

import (
	"math"
	"strconv"
	"strings"

	"swingbridge/api"
	"swingbridge/refusal"
)

// Texts of values, and what stands around them.
const (
	textNull  = "null"
	textFalse = "false"
	textTrue  = "true"
	behind    = "u"  // behind a number from 0 on
	open      = "x'" // ahead of bytes
	shut      = "'"  // behind bytes
)

// kind is what is done with the values of one Kind.
type kind struct {
	only func(v api.Value) api.Value           // the value with nothing but what its Kind names
	tell func(v api.Value) string              // the text of a value that may be
	read func(s string) (v api.Value, ok bool) // the value of a text, however long its bytes are
}

func kinds() map[api.ValueKind]kind {
	return map[api.ValueKind]kind{
		api.ValueNull:  {onlyNull, tellNull, readNull},
		api.ValueInt:   {onlyInt, tellInt, readInt},
		api.ValueUint:  {onlyUint, tellUint, readUint},
		api.ValueBool:  {onlyBool, tellBool, readBool},
		api.ValueBytes: {onlyBytes, tellBytes, readBytes},
	}
}

func check(v api.Value) error {
	k, ok := kinds()[v.Kind]
	if !ok || v != k.only(v) {
		return refusal.Of("a value that may not be", api.ErrArg)
	}
	if len(v.Bytes) > api.MaxBytes {
		return refusal.Of("too many bytes", api.ErrLong)
	}
	return nil
}

func text(v api.Value) (string, error) {
	if err := check(v); err != nil {
		return "", err
	}
	return kinds()[v.Kind].tell(v), nil
}

// parse asks first whether a text has the form of any value at all, and then only whether that value may be: a text of another form is none, however long it is.
func parse(s string) (api.Value, error) {
	v, ok := kinds()[kindOf(s)].read(s)
	if !ok {
		return api.Value{}, refusal.Of("no value's text", api.ErrText)
	}
	if err := check(v); err != nil {
		return api.Value{}, err
	}
	return v, nil
}

// kindOf tells the one Kind of which a text may be; what is like none of them is read, and refused, as a number.
func kindOf(s string) api.ValueKind {
	switch {
	case s == textNull:
		return api.ValueNull
	case s == textFalse, s == textTrue:
		return api.ValueBool
	case strings.HasPrefix(s, open):
		return api.ValueBytes
	case strings.HasSuffix(s, behind):
		return api.ValueUint
	}
	return api.ValueInt
}

func onlyNull(api.Value) api.Value { return api.Value{} }

func tellNull(api.Value) string { return textNull }

func readNull(s string) (api.Value, bool) { return api.Value{}, s == textNull }

func onlyInt(v api.Value) api.Value { return api.Value{Kind: api.ValueInt, Int: v.Int} }

func tellInt(v api.Value) string { return strconv.FormatInt(v.Int, 10) }

// readInt lets a number with - ahead reach one further from 0 than one without, and not be 0.
func readInt(s string) (api.Value, bool) {
	least, most, sign := uint64(0), uint64(math.MaxInt64), uint64(1)
	var n uint64
	var ok bool
	switch digits, minus := strings.CutPrefix(s, "-"); {
	case minus:
		s, least, most, sign = digits, 1, 1<<63, math.MaxUint64 // -1, as numbers wrap round
		fallthrough
	default:
		n, ok = number(s, most)
	}
	return api.Value{Kind: api.ValueInt, Int: int64(n * sign)}, ok && n >= least
}

func onlyUint(v api.Value) api.Value { return api.Value{Kind: api.ValueUint, Uint: v.Uint} }

func tellUint(v api.Value) string { return strconv.FormatUint(v.Uint, 10) + behind }

func readUint(s string) (api.Value, bool) {
	digits, is := strings.CutSuffix(s, behind)
	n, ok := number(digits, math.MaxUint64)
	return api.Value{Kind: api.ValueUint, Uint: n}, is && ok
}

// onlyBool keeps one bit: just 0 and 1 are the same as their lowest one.
func onlyBool(v api.Value) api.Value { return api.Value{Kind: api.ValueBool, Int: v.Int & 1} }

func tellBool(v api.Value) string {
	if v.Int == 0 {
		return textFalse
	}
	return textTrue
}

func readBool(s string) (api.Value, bool) {
	v := api.Value{Kind: api.ValueBool}
	if s == textTrue {
		v.Int = 1
	}
	return v, s == tellBool(v)
}

func onlyBytes(v api.Value) api.Value { return api.Value{Kind: api.ValueBytes, Bytes: v.Bytes} }

func tellBytes(v api.Value) string {
	b := make([]byte, 0, len(open)+2*len(v.Bytes)+len(shut))
	b = append(b, open...)
	for i := range len(v.Bytes) {
		b = append(b, figures[v.Bytes[i]>>4], figures[v.Bytes[i]&15])
	}
	return string(append(b, shut...))
}

func readBytes(s string) (api.Value, bool) {
	inner, opened := strings.CutPrefix(s, open)
	inner, closed := strings.CutSuffix(inner, shut)
	b, ok := pairs(inner)
	return api.Value{Kind: api.ValueBytes, Bytes: string(b)}, opened && closed && ok
}
