package convert_test

import (
	"fmt"
	"iter"
	"math"
	"math/big"
	"math/rand"
	"regexp"
	"slices"
	"strings"
	"testing"

	"swingbridge/api"
	"swingbridge/convert"
	"swingbridge/schema"
	"swingbridge/value"
)

func null() api.Value                 { return api.Value{} }
func num(n int64) api.Value           { return api.Value{Kind: api.ValueInt, Int: n} }
func uns(n uint64) api.Value          { return api.Value{Kind: api.ValueUint, Uint: n} }
func truth(n int64) api.Value         { return api.Value{Kind: api.ValueBool, Int: n} }
func text(s string) api.Value         { return api.Value{Kind: api.ValueBytes, Bytes: s} }
func long(n int) api.Value            { return text(strings.Repeat("1", n)) }
func none() api.Value                 { return api.Value{Kind: 5} }
func list(l ...api.Value) []api.Value { return l }

func ints(size int) api.Column  { return api.Column{Name: "a", Type: api.TypeInt, Size: size} }
func uints(size int) api.Column { return api.Column{Name: "b_1", Type: api.TypeUint, Size: size} }
func truths() api.Column        { return api.Column{Name: "c", Type: api.TypeBool} }
func texts(size int) api.Column { return api.Column{Name: "d", Type: api.TypeBytes, Size: size} }

func columns(l ...api.Column) []api.Column { return l }

func nullable(c api.Column) api.Column {
	c.Null = true
	return c
}

// wrongColumns may not be.
func wrongColumns() []api.Column {
	l := columns(api.Column{}, api.Column{Name: "a"}, ints(0), ints(3), ints(-1), ints(16), ints(math.MaxInt), uints(5), uints(math.MinInt), texts(0), texts(201), texts(-1),
		api.Column{Name: "a", Type: 5, Size: 1}, api.Column{Name: "a", Type: -1, Size: 1}, api.Column{Name: "a", Type: 1<<32 + 1, Size: 1}, api.Column{Name: "a", Type: math.MaxInt, Size: 1}, api.Column{Name: "a", Type: math.MinInt, Size: 1})
	for _, name := range []string{"", "A", "1", "_a", "a b", "\xff", strings.Repeat("a", 25), strings.Repeat("a", 100000)} {
		c := ints(1)
		c.Name = name
		l = append(l, c)
	}
	c := truths()
	c.Size = 1
	return append(l, c)
}

// manyColumns are of all types, of all Sizes at which something changes, each of which may be null, or not.
func manyColumns() []api.Column {
	l := columns(truths())
	for _, size := range []int{1, 2, 4, 8} {
		l = append(l, ints(size), uints(size))
	}
	for _, size := range []int{1, 2, 3, 4, 5, 6, 7, 9, 10, 11, 12, 18, 19, 20, 21, 199, 200} {
		l = append(l, texts(size))
	}
	for _, c := range slices.Clone(l) {
		l = append(l, nullable(c))
	}
	return l
}

// manyValues are those at, and next to, the bounds of all columns, and others; some of them may not be.
func manyValues() []api.Value {
	l := list(null(), truth(0), truth(1), none(), truth(2), long(201), api.Value{Kind: api.ValueInt, Uint: 1})
	for _, bit := range []int{0, 1, 7, 8, 15, 16, 31, 32, 63} {
		for off := -2; off <= 2; off++ {
			n := uint64(1)<<bit + uint64(off)
			l = append(l, num(int64(n)), num(-int64(n)), uns(n), uns(-n))
		}
	}
	for _, v := range slices.Clone(l) {
		switch v.Kind {
		case api.ValueInt:
			l = append(l, text(fmt.Sprint(v.Int)))
		case api.ValueUint:
			l = append(l, text(fmt.Sprint(v.Uint)))
		}
	}
	for n := uint64(1); n <= math.MaxUint64/10; n *= 10 {
		l = append(l, num(int64(n)), num(-int64(n)), uns(n), uns(n-1), text(fmt.Sprint(n)), text(fmt.Sprint("-", n)))
	}
	for _, s := range wrongDigits {
		l = append(l, text(s))
	}
	for _, n := range []int{1, 2, 3, 19, 20, 21, 199, 200} {
		l = append(l, text(strings.Repeat("x", n)), text(strings.Repeat("9", n)))
	}
	slices.SortFunc(l, value.Order)
	return slices.Compact(l)
}

// wrongDigits are no number's.
var wrongDigits = []string{
	"", "-", "+", "--1", "-+1", "+1", "+0", "-0", "00", "01", "-01", "-00", "007", "1-", "1 ", " 1", "1\n", "1\x00", "\x001", "1.", "1.0", ".1", "1e1", "1u", "5u", "0x1", "0b1", "0o1", "1_0", "1,0",
	"x", "a", "A", "ff", "x'31'", "null", "true", "false", "٣", "１", "\xff", "1\xff", "−1", "-\x00", "/", ":", "1/", "1:",
	"18446744073709551616", "-9223372036854775809", "99999999999999999999", "36893488147419103233", "-18446744073709551615", "-18446744073709551617",
}

var digits = regexp.MustCompile(`^(0|-?[1-9][0-9]*)\z`)

// numberOf tells the number that a value, which is not null, says, with no bounds.
func numberOf(v api.Value) (*big.Int, bool) {
	switch v.Kind {
	case api.ValueInt, api.ValueBool:
		return big.NewInt(v.Int), true
	case api.ValueUint:
		return new(big.Int).SetUint64(v.Uint), true
	}
	if !digits.MatchString(v.Bytes) {
		return nil, false
	}
	return new(big.Int).SetString(v.Bytes, 10)
}

// valueOf tells the value of a type that says a number.
func valueOf(t api.TypeKind, n *big.Int) (api.Value, bool) {
	switch t {
	case api.TypeInt:
		return num(n.Int64()), n.IsInt64()
	case api.TypeUint:
		return uns(n.Uint64()), n.IsUint64()
	case api.TypeBool:
		return truth(n.Int64()), n.IsInt64() && n.Int64()>>1 == 0
	}
	return text(n.String()), true
}

func mayColumn(c api.Column) bool {
	return schema.Check(api.Schema{Columns: columns(api.Column{Name: "key", Type: api.TypeBool}, c), Key: []int{0}}) == api.OK
}

// due says over again what the chapter says, in another way than the package.
func due(from, to api.Column, v api.Value) (api.Value, api.Errno) {
	if !mayColumn(from) || !mayColumn(to) {
		return null(), api.ErrArg
	}
	if e := schema.Fits(from, v); e != api.OK {
		return null(), e
	}
	if from.Type+to.Type == api.TypeBool+api.TypeBytes && from.Type != to.Type && from.Type > 2 && to.Type > 2 {
		return null(), api.ErrWay
	}
	w, is := v, true
	if v != null() && from.Type != to.Type {
		var n *big.Int
		if n, is = numberOf(v); is {
			w, is = valueOf(to.Type, n)
		}
	}
	if !is || schema.Fits(to, w) != api.OK {
		return null(), api.ErrOver
	}
	return w, api.OK
}

// dueSure says the chapter's list of what is sure over again.
func dueSure(from, to api.Column) bool {
	if from.Null && !to.Null {
		return false
	}
	switch [2]api.TypeKind{from.Type, to.Type} {
	case [2]api.TypeKind{1, 1}, [2]api.TypeKind{2, 2}, [2]api.TypeKind{3, 3}, [2]api.TypeKind{4, 4}:
		return to.Size >= from.Size
	case [2]api.TypeKind{2, 1}:
		return to.Size > from.Size
	case [2]api.TypeKind{3, 1}, [2]api.TypeKind{3, 2}:
		return true
	case [2]api.TypeKind{1, 4}:
		return to.Size >= map[int]int{1: 4, 2: 6, 4: 11, 8: 20}[from.Size]
	case [2]api.TypeKind{2, 4}:
		return to.Size >= map[int]int{1: 3, 2: 5, 4: 10, 8: 20}[from.Size]
	}
	return false
}

// P6.1

// allWays are rising.
var allWays = [][2]api.TypeKind{
	{1, 1}, {1, 2}, {1, 3}, {1, 4},
	{2, 1}, {2, 2}, {2, 3}, {2, 4},
	{3, 1}, {3, 2}, {3, 3},
	{4, 1}, {4, 2}, {4, 4},
}

func TestWay(t *testing.T) {
	kinds := []api.TypeKind{-2, -1, 0, 1, 2, 3, 4, 5, 6, 257, 1<<32 + 1, math.MaxInt, math.MinInt, math.MinInt + 1}
	for _, from := range kinds {
		for _, to := range kinds {
			want := slices.Contains(allWays, [2]api.TypeKind{from, to})
			if is := convert.Way(from, to); is != want {
				t.Error(from, to, is)
			}
		}
	}
}

func over(all iter.Seq2[api.TypeKind, api.TypeKind], most int) [][2]api.TypeKind {
	var l [][2]api.TypeKind
	for from, to := range all {
		if l = append(l, [2]api.TypeKind{from, to}); len(l) == most {
			break
		}
	}
	return l
}

func TestWays(t *testing.T) {
	all := convert.Ways()
	for range 20 {
		if l := over(all, 99); !slices.Equal(l, allWays) {
			t.Fatal(l)
		}
	}
	for most := 1; most <= 15; most++ { // left, and gone over again
		if l := over(all, most); !slices.Equal(l, allWays[:min(most, 14)]) {
			t.Error(most, l)
		}
	}
	var outer [][2]api.TypeKind
	for from, to := range all { // one within another
		outer = append(outer, [2]api.TypeKind{from, to})
		if inner := over(all, len(outer)); !slices.Equal(inner, allWays[:len(outer)]) {
			t.Error(from, to, inner)
		}
	}
	if !slices.Equal(outer, allWays) {
		t.Error(outer)
	}
}

func TestSure(t *testing.T) {
	for _, c := range []struct {
		from, to api.Column
		is       bool
	}{
		{uints(1), ints(2), true}, {uints(1), ints(1), false}, {uints(1), ints(8), true}, {uints(2), ints(2), false}, {uints(2), ints(4), true},
		{uints(4), ints(8), true}, {uints(4), ints(4), false}, {uints(4), ints(2), false}, {uints(8), ints(8), false},
		{ints(1), ints(1), true}, {ints(1), ints(2), true}, {ints(2), ints(1), false}, {ints(8), ints(8), true},
		{uints(4), uints(4), true}, {uints(4), uints(8), true}, {uints(8), uints(4), false},
		{truths(), truths(), true}, {texts(5), texts(5), true}, {texts(5), texts(6), true}, {texts(6), texts(5), false}, {texts(200), texts(200), true},
		{ints(1), uints(1), false}, {ints(1), uints(8), false}, {ints(2), uints(1), false}, {ints(8), uints(1), false}, // a number below 0 is refused by each
		{truths(), ints(1), true}, {truths(), ints(8), true}, {truths(), uints(1), true}, {truths(), uints(8), true},
		{ints(1), truths(), false}, {uints(1), truths(), false},
		{truths(), texts(200), false}, {texts(1), truths(), false},
		{texts(1), ints(8), false}, {texts(1), uints(8), false}, {texts(200), uints(8), false},
		{ints(1), texts(4), true}, {ints(1), texts(3), false}, {ints(2), texts(6), true}, {ints(2), texts(5), false},
		{ints(4), texts(11), true}, {ints(4), texts(10), false}, {ints(8), texts(20), true}, {ints(8), texts(19), false}, {ints(8), texts(200), true},
		{uints(1), texts(3), true}, {uints(1), texts(2), false}, {uints(2), texts(5), true}, {uints(2), texts(4), false},
		{uints(4), texts(10), true}, {uints(4), texts(9), false}, {uints(8), texts(20), true}, {uints(8), texts(19), false},
		{nullable(ints(1)), nullable(ints(1)), true}, {nullable(ints(1)), ints(1), false}, {ints(1), nullable(ints(1)), true}, {nullable(truths()), ints(8), false}, {nullable(truths()), nullable(ints(8)), true},
		{nullable(truths()), nullable(texts(200)), false}, {nullable(ints(2)), nullable(ints(1)), false}, {ints(2), nullable(ints(1)), false},
	} {
		if is, e := convert.Sure(c.from, c.to); is != c.is || e != api.OK {
			t.Errorf("%v, %v: %v, %v", c.from, c.to, is, e)
		}
	}
}

func TestSureRefuses(t *testing.T) {
	for _, wrong := range wrongColumns() {
		for _, c := range append(wrongColumns(), manyColumns()...) {
			for _, wrong := range columns(wrong, nullable(wrong)) {
				for _, pair := range [][]api.Column{{wrong, c}, {c, wrong}, {wrong, wrong}} {
					if is, e := convert.Sure(pair[0], pair[1]); is || e != api.ErrArg {
						t.Errorf("%.99v: %v, %v", pair, is, e)
					}
				}
			}
		}
	}
}

// P6.2

func TestConvert(t *testing.T) {
	for _, c := range []struct {
		from, to api.Column
		v, w     api.Value
		e        api.Errno
	}{
		{ints(2), uints(1), num(255), uns(255), api.OK}, {ints(2), uints(1), num(256), null(), api.ErrOver}, {ints(2), uints(1), num(-1), null(), api.ErrOver},
		{ints(8), uints(8), num(math.MinInt64), null(), api.ErrOver}, {ints(8), uints(8), num(math.MaxInt64), uns(math.MaxInt64), api.OK}, {ints(1), uints(1), num(0), uns(0), api.OK},
		{uints(8), ints(8), uns(math.MaxInt64), num(math.MaxInt64), api.OK}, {uints(8), ints(8), uns(1 << 63), null(), api.ErrOver}, {uints(8), ints(8), uns(math.MaxUint64), null(), api.ErrOver},
		{uints(1), ints(1), uns(127), num(127), api.OK}, {uints(1), ints(1), uns(128), null(), api.ErrOver},
		{ints(8), ints(1), num(-128), num(-128), api.OK}, {ints(8), ints(1), num(-129), null(), api.ErrOver}, {ints(8), ints(1), num(128), null(), api.ErrOver},
		{uints(8), uints(1), uns(255), uns(255), api.OK}, {uints(8), uints(1), uns(256), null(), api.ErrOver},
		{truths(), truths(), truth(1), truth(1), api.OK}, {texts(3), texts(2), text("ab"), text("ab"), api.OK}, {texts(3), texts(2), text("abc"), null(), api.ErrOver}, {texts(3), texts(2), text(""), text(""), api.OK},
		{texts(200), texts(200), long(200), long(200), api.OK}, {texts(2), texts(2), text("\xff\x00"), text("\xff\x00"), api.OK}, {texts(3), texts(3), text("007"), text("007"), api.OK},

		{ints(1), truths(), num(0), truth(0), api.OK}, {ints(1), truths(), num(1), truth(1), api.OK}, {ints(1), truths(), num(2), null(), api.ErrOver}, {ints(1), truths(), num(-1), null(), api.ErrOver},
		{ints(8), truths(), num(256), null(), api.ErrOver}, {ints(8), truths(), num(1 << 32), null(), api.ErrOver}, {ints(8), truths(), num(math.MinInt64), null(), api.ErrOver},
		{uints(1), truths(), uns(0), truth(0), api.OK}, {uints(1), truths(), uns(1), truth(1), api.OK}, {uints(1), truths(), uns(2), null(), api.ErrOver}, {uints(8), truths(), uns(1 << 63), null(), api.ErrOver},
		{truths(), ints(1), truth(0), num(0), api.OK}, {truths(), ints(8), truth(1), num(1), api.OK}, {truths(), uints(1), truth(0), uns(0), api.OK}, {truths(), uints(8), truth(1), uns(1), api.OK},

		{ints(1), texts(3), num(-12), text("-12"), api.OK}, {ints(1), texts(3), num(-128), null(), api.ErrOver}, {ints(1), texts(3), num(127), text("127"), api.OK}, {ints(1), texts(1), num(0), text("0"), api.OK},
		{ints(8), texts(20), num(math.MinInt64), text("-9223372036854775808"), api.OK}, {ints(8), texts(19), num(math.MinInt64), null(), api.ErrOver}, {ints(8), texts(19), num(math.MaxInt64), text("9223372036854775807"), api.OK},
		{uints(1), texts(3), uns(255), text("255"), api.OK}, {uints(1), texts(2), uns(100), null(), api.ErrOver}, {uints(1), texts(2), uns(99), text("99"), api.OK}, {uints(8), texts(20), uns(math.MaxUint64), text("18446744073709551615"), api.OK},
		{texts(3), ints(1), text("12"), num(12), api.OK}, {texts(3), ints(1), text("01"), null(), api.ErrOver}, {texts(3), ints(1), text("-12"), num(-12), api.OK}, {texts(3), ints(1), text("0"), num(0), api.OK},
		{texts(4), ints(1), text("-128"), num(-128), api.OK}, {texts(4), ints(1), text("-129"), null(), api.ErrOver}, {texts(4), ints(1), text("128"), null(), api.ErrOver},
		{texts(20), ints(8), text("-9223372036854775808"), num(math.MinInt64), api.OK}, {texts(20), ints(8), text("9223372036854775807"), num(math.MaxInt64), api.OK}, {texts(20), ints(8), text("9223372036854775808"), null(), api.ErrOver},
		{texts(20), uints(8), text("18446744073709551615"), uns(math.MaxUint64), api.OK}, {texts(20), uints(8), text("9223372036854775808"), uns(1 << 63), api.OK}, {texts(3), uints(1), text("255"), uns(255), api.OK}, {texts(3), uints(1), text("256"), null(), api.ErrOver},
		{texts(3), uints(1), text("-1"), null(), api.ErrOver}, {texts(3), uints(1), text("0"), uns(0), api.OK}, {texts(200), uints(8), long(200), null(), api.ErrOver}, {texts(200), ints(8), text(strings.Repeat("0", 200)), null(), api.ErrOver},

		{nullable(ints(1)), nullable(ints(1)), null(), null(), api.OK}, {nullable(ints(1)), ints(1), null(), null(), api.ErrOver}, {nullable(texts(4)), nullable(uints(1)), null(), null(), api.OK}, {nullable(texts(4)), uints(1), null(), null(), api.ErrOver},
		{nullable(ints(1)), nullable(texts(4)), null(), null(), api.OK}, {nullable(truths()), nullable(uints(1)), null(), null(), api.OK}, {nullable(ints(1)), nullable(truths()), null(), null(), api.OK}, {nullable(ints(1)), truths(), null(), null(), api.ErrOver},
		{nullable(ints(1)), ints(1), num(1), num(1), api.OK}, {ints(1), nullable(ints(1)), num(1), num(1), api.OK}, {ints(1), nullable(ints(1)), null(), null(), api.ErrNull},

		{truths(), texts(200), truth(1), null(), api.ErrWay}, {truths(), texts(1), truth(0), null(), api.ErrWay}, {texts(1), truths(), text("1"), null(), api.ErrWay}, {texts(4), truths(), text("true"), null(), api.ErrWay},
		{nullable(truths()), nullable(texts(4)), null(), null(), api.ErrWay}, {nullable(truths()), texts(4), null(), null(), api.ErrWay}, {nullable(texts(4)), nullable(truths()), null(), null(), api.ErrWay}, {nullable(texts(4)), truths(), null(), null(), api.ErrWay},
	} {
		if w, e := convert.Convert(c.from, c.to, c.v); w != c.w || e != c.e {
			t.Errorf("%v, %v, %v: %v, %v, not %v, %v", c.from, c.to, c.v, w, e, c.w, c.e)
		}
	}
}

func TestWrongDigitsAreRefused(t *testing.T) {
	for _, s := range wrongDigits {
		for _, to := range columns(ints(8), uints(8), nullable(ints(1)), nullable(uints(1))) {
			if w, e := convert.Convert(texts(200), to, text(s)); w != null() || e != api.ErrOver {
				t.Errorf("%q, %v: %v, %v", s, to, w, e)
			}
		}
	}
}

// The columns are told ahead of the value, that ahead of the way, and that ahead of what it would be.
func TestConvertOrder(t *testing.T) {
	values := list(null(), num(1), truth(1), truth(2), none(), long(201), text("x"))
	for _, wrong := range wrongColumns() {
		for _, right := range columns(ints(1), uints(1), truths(), texts(1), nullable(truths()), wrong) {
			for _, v := range values {
				for _, pair := range [][]api.Column{{wrong, right}, {right, wrong}} {
					if w, e := convert.Convert(pair[0], pair[1], v); w != null() || e != api.ErrArg {
						t.Errorf("%.99v, %.50v: %v, %v", pair, v, w, e)
					}
				}
			}
		}
	}
	for _, c := range []struct {
		from api.Column
		v    api.Value
		e    api.Errno
	}{
		{truths(), truth(2), api.ErrArg}, {truths(), none(), api.ErrArg}, {truths(), long(201), api.ErrLong}, {truths(), null(), api.ErrNull}, {truths(), num(1), api.ErrType}, {truths(), text("1"), api.ErrType},
		{texts(1), none(), api.ErrArg}, {texts(1), api.Value{Kind: api.ValueBytes, Int: 1, Bytes: long(201).Bytes}, api.ErrArg}, {texts(1), long(201), api.ErrLong}, {texts(1), long(100000), api.ErrLong}, {texts(1), null(), api.ErrNull}, {texts(1), truth(1), api.ErrType}, {texts(1), text("11"), api.ErrSize},
		{ints(1), none(), api.ErrArg}, {ints(1), long(201), api.ErrLong}, {ints(1), null(), api.ErrNull}, {ints(1), uns(1), api.ErrType}, {ints(1), uns(1000), api.ErrType}, {ints(1), num(128), api.ErrSize},
		{uints(1), api.Value{Kind: api.ValueUint, Int: 1}, api.ErrArg}, {uints(1), long(201), api.ErrLong}, {uints(1), null(), api.ErrNull}, {uints(1), num(-1), api.ErrType}, {uints(1), uns(256), api.ErrSize},
	} {
		for _, to := range manyColumns() { // whether there is a way, and would fit, or not
			if w, e := convert.Convert(c.from, to, c.v); w != null() || e != c.e {
				t.Errorf("%v, %v, %.50v: %v, %v, not %v", c.from, to, c.v, w, e, c.e)
			}
		}
	}
}

func TestRow(t *testing.T) {
	from := columns(ints(2), nullable(texts(3)), truths(), uints(1))
	to := columns(uints(1), nullable(ints(1)), ints(1), texts(3))
	for i, c := range []struct {
		from, to []api.Column
		row      []api.Value
		l        []api.Value
		e        api.Errno
	}{
		{from, to, list(num(255), text("-5"), truth(1), uns(200)), list(uns(255), num(-5), num(1), text("200")), api.OK},
		{from, to, list(num(0), null(), truth(0), uns(0)), list(uns(0), null(), num(0), text("0")), api.OK},
		{nil, nil, nil, nil, api.OK},
		{columns(), columns(), list(), list(), api.OK},
		{from[:1], to[:1], list(num(7)), list(uns(7)), api.OK},
		{slices.Repeat(from, 100), slices.Repeat(to, 100), slices.Repeat(list(num(1), null(), truth(1), uns(2)), 100), slices.Repeat(list(uns(1), null(), num(1), text("2")), 100), api.OK}, // more columns than a table has

		{from, to[:3], list(num(255), text("-5"), truth(1), uns(200)), nil, api.ErrCount},
		{from[:3], to, list(num(255), text("-5"), truth(1), uns(200)), nil, api.ErrCount},
		{from[:3], to, list(num(255), text("-5"), truth(1)), nil, api.ErrCount},
		{from, to[:3], list(num(255), text("-5"), truth(1)), nil, api.ErrCount},
		{from, to, list(num(255), text("-5"), truth(1)), nil, api.ErrCount},
		{from, to, list(num(255), text("-5"), truth(1), uns(200), null()), nil, api.ErrCount},
		{from, to, nil, nil, api.ErrCount}, {nil, nil, list(null()), nil, api.ErrCount}, {nil, to, nil, nil, api.ErrCount}, {from, nil, nil, nil, api.ErrCount},
		{wrongColumns(), nil, nil, nil, api.ErrCount}, {columns(ints(3)), columns(ints(3)), list(none(), none()), nil, api.ErrCount}, // ahead of all others

		{from, to, list(num(256), text("-5"), truth(1), uns(200)), nil, api.ErrOver},
		{from, to, list(num(255), text("-5"), truth(1), uns(256)), nil, api.ErrSize},
		{from, to, list(num(255), text("-5"), null(), uns(200)), nil, api.ErrNull},
		{from, to, list(num(255), num(5), truth(1), uns(200)), nil, api.ErrType},
		{from, to, list(num(255), long(201), truth(1), uns(200)), nil, api.ErrLong},
		{from, to, list(num(255), text("-5"), none(), uns(200)), nil, api.ErrArg},
		// from the left
		{from, to, list(num(-1), none(), null(), none()), nil, api.ErrOver},
		{from, to, list(none(), num(1), null(), uns(256)), nil, api.ErrArg},
		{from, to, list(num(1), num(1), null(), uns(256)), nil, api.ErrType},
		{from, to, list(num(1), null(), null(), uns(256)), nil, api.ErrNull},
		{columns(ints(1), ints(3)), columns(ints(1), ints(1)), list(num(128), num(1)), nil, api.ErrSize}, // a column is told in its place
		{columns(ints(1), ints(1)), columns(uints(1), ints(3)), list(num(-1), num(1)), nil, api.ErrOver},
		{columns(ints(1), ints(1)), columns(uints(1), ints(3)), list(num(1), num(1)), nil, api.ErrArg},
		{columns(ints(3), ints(1)), columns(ints(1), ints(1)), list(num(1), num(128)), nil, api.ErrArg},
		{columns(truths(), ints(1)), columns(texts(4), ints(3)), list(truth(1), none()), nil, api.ErrWay},
		{columns(ints(1), truths()), columns(ints(1), texts(4)), list(num(1), truth(1)), nil, api.ErrWay},
	} {
		if l, e := convert.Row(c.from, c.to, c.row...); !slices.Equal(l, c.l) || e != c.e || e != api.OK && l != nil {
			t.Errorf("%d: %v, %v, not %v, %v", i, l, e, c.l, c.e)
		}
	}
}

// P6.2, P6.3: all columns, all values.

func TestConvertIsAsTheChapterSays(t *testing.T) {
	values := manyValues()
	seen := map[api.Errno]int{}
	for _, from := range manyColumns() {
		for _, to := range manyColumns() {
			for _, v := range values {
				w, e := convert.Convert(from, to, v)
				if want, f := due(from, to, v); w != want || e != f {
					t.Fatalf("%v, %v, %v: %v, %v, not %v, %v", from, to, v, w, e, want, f)
				}
				seen[e]++
			}
		}
	}
	for _, e := range []api.Errno{api.OK, api.ErrArg, api.ErrLong, api.ErrNull, api.ErrType, api.ErrSize, api.ErrWay, api.ErrOver} {
		if seen[e] < 500 {
			t.Error("seen too seldom:", e, seen[e])
		}
	}
}

// A conversion is sure just if no value that fits is refused: each bound is among the values.
func TestSureRefusesNoValueThatFits(t *testing.T) {
	values := manyValues()
	sure := 0
	for _, from := range manyColumns() {
		for _, to := range manyColumns() {
			is, e := convert.Sure(from, to)
			if is != dueSure(from, to) || e != api.OK {
				t.Fatal(from, to, is, e)
			}
			refused := slices.IndexFunc(values, func(v api.Value) bool {
				_, e := convert.Convert(from, to, v)
				return schema.Fits(from, v) == api.OK && e != api.OK
			})
			if is != (refused < 0) {
				t.Fatal(from, to, is, refused)
			}
			if is {
				sure++
			}
		}
	}
	if sure < 300 || sure > 2000 {
		t.Error("too few of the one, or of the other:", sure)
	}
}

func TestConvertedBackItIsWhatItWas(t *testing.T) {
	values := manyValues()
	back := 0
	for _, from := range manyColumns() {
		for _, to := range manyColumns() {
			was := map[api.Value]api.Value{}
			for _, v := range values {
				w, e := convert.Convert(from, to, v)
				if e != api.OK {
					continue
				}
				if again, e := convert.Convert(to, from, w); again != v || e != api.OK {
					t.Fatalf("%v, %v, %v: %v, back %v, %v", from, to, v, w, again, e)
				}
				if other, is := was[w]; is {
					t.Fatalf("%v, %v: %v and %v are %v", from, to, v, other, w)
				}
				was[w] = v
				back++
			}
		}
	}
	if back < 10000 {
		t.Error("too few are converted:", back)
	}
}

// some takes one of the columns, and makes of any number a value that may fit it.
func some(r *rand.Rand, l []api.Column) (api.Column, api.Value) {
	c := l[r.Intn(len(l))]
	n := r.Uint64() >> r.Intn(64)
	s := []string{fmt.Sprint(n), fmt.Sprint(int64(n)), fmt.Sprint("-", n), fmt.Sprint("0", n), fmt.Sprint(n, "u")}[r.Intn(5)]
	v := []api.Value{null(), num(int64(n)), uns(n), truth(int64(n & 1)), text(s)}[int(c.Type)*min(1, r.Intn(9))]
	return c, v
}

func TestManyNumbers(t *testing.T) {
	r := rand.New(rand.NewSource(1))
	all := manyColumns()
	done := 0
	for range 100000 {
		from, v := some(r, all)
		to, _ := some(r, all)
		w, e := convert.Convert(from, to, v)
		if want, f := due(from, to, v); w != want || e != f {
			t.Fatalf("%v, %v, %v: %v, %v, not %v, %v", from, to, v, w, e, want, f)
		}
		if e != api.OK {
			continue
		}
		done++
		if again, e := convert.Convert(to, from, w); again != v || e != api.OK {
			t.Fatalf("%v, %v, %v: %v, back %v, %v", from, to, v, w, again, e)
		}
	}
	if done < 10000 {
		t.Error("too few are converted:", done)
	}
}

func TestRowIsConvertOfEach(t *testing.T) {
	r := rand.New(rand.NewSource(2))
	all := manyColumns()
	whole := 0
	for range 50000 {
		n := r.Intn(5)
		from, to, row := make([]api.Column, n), make([]api.Column, n), make([]api.Value, n)
		var want []api.Value
		first := api.OK
		for i := range n {
			from[i], row[i] = some(r, all)
			to[i], _ = some(r, all)
			w, e := due(from[i], to[i], row[i])
			if want = append(want, w); first == api.OK {
				first = e
			}
		}
		if first != api.OK {
			want = nil
		} else {
			whole++
		}
		if l, e := convert.Row(from, to, row...); !slices.Equal(l, want) || e != first {
			t.Fatalf("%v, %v, %v: %v, %v, not %v, %v", from, to, row, l, e, want, first)
		}
	}
	if whole < 5000 {
		t.Error("too few rows are converted:", whole)
	}
}

// Rules that hold everywhere.

func TestNothingHandedInIsChanged(t *testing.T) {
	from, to := columns(ints(1), truths(), ints(2), ints(4)), columns(texts(4), ints(1), uints(2), uints(4))
	l := list(num(-5), truth(1), none(), none())
	convert.Row(from[:2], to[:2], l[:2]...)
	convert.Row(from[:3], to[:3], l[:3]...)
	if !slices.Equal(from, columns(ints(1), truths(), ints(2), ints(4))) || !slices.Equal(to, columns(texts(4), ints(1), uints(2), uints(4))) || !slices.Equal(l, list(num(-5), truth(1), none(), none())) {
		t.Error(from, to, l)
	}
}

func TestAnswersAreNewMemory(t *testing.T) {
	c, l := columns(ints(1), ints(1)), list(num(1), num(2))
	a, _ := convert.Row(c, c, l...)
	b, _ := convert.Row(c, c, l...)
	for i := range a[:cap(a)] {
		a[:cap(a)][i] = none()
	}
	if want := list(num(1), num(2)); !slices.Equal(l, want) || !slices.Equal(b, want) {
		t.Error(l, b)
	}
}

// Any columns, any value: as the chapter says, and there and back.
func FuzzAnyValue(f *testing.F) {
	f.Add(1, 2, false, 2, 1, false, 1, int64(255), uint64(0), "")
	f.Add(4, 3, true, 1, 1, false, 4, int64(0), uint64(0), "01")
	f.Add(3, 0, true, 4, 200, true, 0, int64(0), uint64(0), "")
	f.Fuzz(func(t *testing.T, type1, size1 int, null1 bool, type2, size2 int, null2 bool, kind int, i int64, u uint64, s string) {
		from := api.Column{Name: "a", Type: api.TypeKind(type1), Size: size1, Null: null1}
		to := api.Column{Name: "b", Type: api.TypeKind(type2), Size: size2, Null: null2}
		v := api.Value{Kind: api.ValueKind(kind), Int: i, Uint: u, Bytes: s}
		w, e := convert.Convert(from, to, v)
		if want, f := due(from, to, v); w != want || e != f {
			t.Fatalf("%v, %v, %v: %v, %v, not %v, %v", from, to, v, w, e, want, f)
		}
		if e != api.OK {
			return
		}
		if again, e := convert.Convert(to, from, w); again != v || e != api.OK {
			t.Fatalf("%v, %v, %v: %v, back %v, %v", from, to, v, w, again, e)
		}
	})
}
