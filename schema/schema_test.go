package schema_test

import (
	"fmt"
	"maps"
	"math"
	"math/big"
	"math/rand"
	"reflect"
	"slices"
	"strings"
	"testing"

	"swingbridge/api"
	"swingbridge/schema"
	"swingbridge/value"
)

func null() api.Value                { return api.Value{} }
func num(n int64) api.Value          { return api.Value{Kind: api.ValueInt, Int: n} }
func uns(n uint64) api.Value         { return api.Value{Kind: api.ValueUint, Uint: n} }
func truth(n int64) api.Value        { return api.Value{Kind: api.ValueBool, Int: n} }
func text(s string) api.Value        { return api.Value{Kind: api.ValueBytes, Bytes: s} }
func long(n int) api.Value           { return text(strings.Repeat("x", n)) }
func none() api.Value                { return api.Value{Kind: 5} }
func row(l ...api.Value) []api.Value { return l }

func column(name string, t api.TypeKind, size int) api.Column {
	return api.Column{Name: name, Type: t, Size: size}
}

func nullable(c api.Column) api.Column {
	c.Null = true
	return c
}

// many are so many columns, each another one, none of which may be null.
func many(n int) []api.Column {
	l := make([]api.Column, n)
	for i := range l {
		l[i] = column(fmt.Sprint("c", i), api.TypeInt, 8)
	}
	return l
}

// plain is a schema of all types, two of whose columns may be null.
func plain() api.Schema {
	return api.Schema{
		Columns: []api.Column{
			column("a", api.TypeInt, 1),
			nullable(column("b", api.TypeBytes, 2)),
			column("c_1", api.TypeUint, 2),
			column("d", api.TypeBool, 0),
			nullable(column("e", api.TypeInt, 8)),
		},
		Key:     []int{2, 0},
		Uniques: [][]int{{1}, {4, 3, 0}},
	}
}

// with is the plain schema, changed.
func with(change func(*api.Schema)) api.Schema {
	s := plain()
	change(&s)
	return s
}

// mayName, mayColumn, maySet and maySchema say over again what the chapter says, in another way than the package.
func mayName(s string) bool {
	const letters, others = "abcdefghijklmnopqrstuvwxyz", "0123456789_"
	return s != "" && len(s) <= 24 && strings.Contains(letters, s[:1]) && strings.Trim(s, letters+others) == "" &&
		strings.Map(func(r rune) rune {
			if strings.ContainsRune(letters+others, r) {
				return -1
			}
			return r
		}, s) == ""
}

func mayColumn(c api.Column) bool {
	sizes := map[api.TypeKind][]int{1: {1, 2, 4, 8}, 2: {1, 2, 4, 8}, 3: {0}, 4: {min(max(c.Size, 1), 200)}}
	return mayName(c.Name) && slices.Contains(sizes[c.Type], c.Size)
}

func maySet(s api.Schema, set []int, null bool) bool {
	seen := map[int]bool{}
	for _, at := range set {
		if at < 0 || at >= len(s.Columns) || s.Columns[at].Null && !null {
			return false
		}
		seen[at] = true
	}
	return len(set) >= 1 && len(set) <= 4 && len(seen) == len(set)
}

func maySchema(s api.Schema) bool {
	names := map[string]bool{}
	for _, c := range s.Columns {
		if !mayColumn(c) {
			return false
		}
		names[c.Name] = true
	}
	for _, set := range s.Uniques {
		if !maySet(s, set, true) {
			return false
		}
	}
	return len(s.Columns) >= 1 && len(s.Columns) <= 8 && len(names) == len(s.Columns) &&
		maySet(s, s.Key, false) && len(s.Uniques) <= 3
}

// fits says over again what fits a column that may be, with numbers that have no bounds.
func fits(c api.Column, v api.Value) api.Errno {
	if e := value.Check(v); e != api.OK {
		return e
	}
	if v.Kind == api.ValueNull {
		if c.Null {
			return api.OK
		}
		return api.ErrNull
	}
	if int(v.Kind) != int(c.Type) { // Types and Kinds of one name have one number
		return api.ErrType
	}
	n, least, most := new(big.Int), new(big.Int), new(big.Int)
	one := big.NewInt(1)
	switch c.Type {
	case api.TypeInt:
		n.SetInt64(v.Int)
		most.Lsh(one, uint(8*c.Size-1))
		least.Neg(most)
		most.Sub(most, one)
	case api.TypeUint:
		n.SetUint64(v.Uint)
		most.Lsh(one, uint(8*c.Size))
		most.Sub(most, one)
	case api.TypeBytes:
		n.SetInt64(int64(len(v.Bytes)))
		most.SetInt64(int64(c.Size))
	}
	if n.Cmp(least) < 0 || n.Cmp(most) > 0 {
		return api.ErrSize
	}
	return api.OK
}

// P3.1

func TestCheck(t *testing.T) {
	for i, c := range []struct {
		s api.Schema
		e api.Errno
	}{
		{plain(), api.OK},
		{api.Schema{}, api.ErrArg},
		{api.Schema{Columns: many(1), Key: []int{0}}, api.OK},
		{api.Schema{Columns: many(8), Key: []int{0}}, api.OK},
		{api.Schema{Columns: many(8), Key: []int{7, 6, 5, 4}, Uniques: [][]int{{0, 1, 2, 3}, {7}, {3, 2, 1, 0}}}, api.OK},
		{api.Schema{Columns: many(9), Key: []int{0}}, api.ErrArg},
		{api.Schema{Columns: many(100000), Key: []int{0}}, api.ErrArg},
		{api.Schema{Key: []int{0}}, api.ErrArg},
		{api.Schema{Columns: []api.Column{}, Key: []int{}}, api.ErrArg},
		{api.Schema{Columns: many(2)}, api.ErrArg},
		{with(func(s *api.Schema) { s.Uniques = nil }), api.OK},
		{with(func(s *api.Schema) { s.Uniques = [][]int{} }), api.OK},
		{with(func(s *api.Schema) { s.Uniques = [][]int{{0}, {1}, {2}} }), api.OK},
		{with(func(s *api.Schema) { s.Uniques = [][]int{{0}, {1}, {2}, {3}} }), api.ErrArg},
		{with(func(s *api.Schema) { s.Uniques = make([][]int, 100000) }), api.ErrArg},
		{with(func(s *api.Schema) { s.Uniques = [][]int{{2, 0}, {2, 0}, {0, 2}} }), api.OK}, // the Key again, and again
		{with(func(s *api.Schema) { s.Uniques = [][]int{{0}, nil} }), api.ErrArg},
		{with(func(s *api.Schema) { s.Uniques = [][]int{{}} }), api.ErrArg},
		{with(func(s *api.Schema) { s.Uniques = [][]int{{0, 1, 2, 3}} }), api.OK},
		{with(func(s *api.Schema) { s.Uniques = [][]int{{0, 1, 2, 3, 4}} }), api.ErrArg},
		{with(func(s *api.Schema) { s.Uniques = [][]int{{0}, {4, 1, 4}} }), api.ErrArg},
		{with(func(s *api.Schema) { s.Uniques = [][]int{{1, 1}} }), api.ErrArg},
		{with(func(s *api.Schema) { s.Uniques = [][]int{{0}, {1}, {5}} }), api.ErrArg},
		{with(func(s *api.Schema) { s.Uniques = [][]int{{0, -1}} }), api.ErrArg},
		{with(func(s *api.Schema) { s.Uniques = [][]int{{math.MaxInt}} }), api.ErrArg},
		{with(func(s *api.Schema) { s.Key = nil }), api.ErrArg},
		{with(func(s *api.Schema) { s.Key = []int{} }), api.ErrArg},
		{with(func(s *api.Schema) { s.Key = []int{3} }), api.OK},
		{with(func(s *api.Schema) { s.Key = []int{1} }), api.ErrArg}, // it may be null
		{with(func(s *api.Schema) { s.Key = []int{0, 2, 4} }), api.ErrArg},
		{with(func(s *api.Schema) { s.Key = []int{0, 2, 0} }), api.ErrArg},
		{with(func(s *api.Schema) { s.Key = []int{0, 0} }), api.ErrArg},
		{with(func(s *api.Schema) { s.Key = []int{-1} }), api.ErrArg},
		{with(func(s *api.Schema) { s.Key = []int{5} }), api.ErrArg},
		{with(func(s *api.Schema) { s.Key = []int{0, math.MinInt} }), api.ErrArg},
		{with(func(s *api.Schema) { s.Key = make([]int, 100000) }), api.ErrArg},
		{with(func(s *api.Schema) { s.Columns[4].Null, s.Key = false, []int{0, 2, 3, 4} }), api.OK},
		{api.Schema{Columns: many(5), Key: []int{0, 1, 2, 3, 4}}, api.ErrArg},
		{with(func(s *api.Schema) { s.Columns[1].Name = "a" }), api.ErrArg},
		{with(func(s *api.Schema) { s.Columns[4].Name = "c_1" }), api.ErrArg},
		{with(func(s *api.Schema) { s.Columns[4].Name = "A" }), api.ErrArg},
		{with(func(s *api.Schema) { s.Columns[0].Name = "" }), api.ErrArg},
		{with(func(s *api.Schema) { s.Columns[4].Size = 3 }), api.ErrArg},
		{with(func(s *api.Schema) { s.Columns[3].Type = api.TypeNone }), api.ErrArg},
	} {
		if e := schema.Check(c.s); e != c.e {
			t.Errorf("%d, %.300v: %v, not %v", i, c.s, e, c.e)
		}
	}
}

// checks holds what Check and Fits tell of a column against what is due.
func checks(t *testing.T, c api.Column, may bool) {
	t.Helper()
	due := api.OK
	if !may {
		due = api.ErrArg
	}
	if e := schema.Check(api.Schema{Columns: []api.Column{column("key", api.TypeBool, 0), c}, Key: []int{0}}); e != due {
		t.Errorf("Check, %.100v: %v, not %v", c, e, due)
	}
	c.Null = true
	if e := schema.Fits(c, null()); e != due {
		t.Errorf("Fits, %.100v: %v, not %v", c, e, due)
	}
}

func TestNames(t *testing.T) {
	for _, name := range []string{"a", "z", "az", "a0", "a9", "a_", "a__0", "n23456789_123456789_1234", "abcdefghijklmnopqrstuvwx", "yz", "x_y_z", "l0123456789"} {
		checks(t, column(name, api.TypeInt, 4), true)
	}
	for _, name := range []string{
		"", "_", "_a", "0", "9", "0a", "9z", "A", "Z", "aA", "aZ", " ", "a ", " a", "a b", "a-b", "a.b", "a\x00", "\x00",
		"`", "a`", "{", "a{", "/", "a/", ":", "a:", "@", "a@", "a^", "é", "aé", "a\xff", "\xff", "ａ", "a,",
		"n23456789_123456789_12345", strings.Repeat("a", 25), strings.Repeat("a", 100000), strings.Repeat("é", 12),
	} {
		checks(t, column(name, api.TypeInt, 4), false)
	}
	for b := range 256 {
		s := string([]byte{byte(b)})
		for _, name := range []string{s, "a" + s, "a" + s + "a", s + "a", "abcdefghijklmnopqrstuvw" + s} {
			checks(t, column(name, api.TypeUint, 1), mayName(name))
		}
	}
}

func TestTypesAndSizes(t *testing.T) {
	for kind := api.TypeKind(-3); kind <= 9; kind++ {
		for size := -20; size <= 300; size++ {
			c := column("x", kind, size)
			checks(t, c, mayColumn(c))
		}
		for _, size := range []int{math.MinInt, math.MinInt + 1, -1 << 32, math.MinInt32, 1 << 16, 1<<16 + 1, math.MaxInt32, 1 << 32, 1<<32 + 1, 1<<32 + 8, math.MaxInt} {
			checks(t, column("x", kind, size), false)
		}
	}
	for _, kind := range []api.TypeKind{math.MinInt, 1<<32 + 1, 1 << 32, math.MaxInt} {
		checks(t, column("x", kind, 1), false)
	}
	for _, c := range []api.Column{
		column("x", 1, 1), column("x", 1, 2), column("x", 1, 4), column("x", 1, 8),
		column("x", 2, 1), column("x", 2, 2), column("x", 2, 4), column("x", 2, 8),
		column("x", 3, 0), column("x", 4, 1), column("x", 4, 200),
	} {
		checks(t, c, true)
	}
	for _, c := range []api.Column{
		column("x", 1, 0), column("x", 1, 3), column("x", 1, 16), column("x", 2, 0), column("x", 2, 5),
		column("x", 3, 1), column("x", 3, -1), column("x", 4, 0), column("x", 4, 201), column("x", 0, 0), column("x", 5, 1),
	} {
		checks(t, c, false)
	}
}

func TestFits(t *testing.T) {
	i, u := func(size int) api.Column { return column("x", api.TypeInt, size) }, func(size int) api.Column { return column("x", api.TypeUint, size) }
	b := func(size int) api.Column { return column("x", api.TypeBytes, size) }
	truths := column("x", api.TypeBool, 0)
	for _, c := range []struct {
		c api.Column
		v api.Value
		e api.Errno
	}{
		{i(1), num(127), api.OK}, {i(1), num(128), api.ErrSize}, {i(1), num(-128), api.OK}, {i(1), num(-129), api.ErrSize},
		{i(2), num(32767), api.OK}, {i(2), num(32768), api.ErrSize}, {i(2), num(-32768), api.OK}, {i(2), num(-32769), api.ErrSize},
		{i(4), num(1<<31 - 1), api.OK}, {i(4), num(1 << 31), api.ErrSize}, {i(4), num(-1 << 31), api.OK}, {i(4), num(-1<<31 - 1), api.ErrSize},
		{i(8), num(math.MaxInt64), api.OK}, {i(8), num(math.MinInt64), api.OK}, {i(8), num(0), api.OK}, {i(1), num(0), api.OK},
		{i(1), num(math.MinInt64), api.ErrSize}, {i(4), num(math.MaxInt64), api.ErrSize}, {i(1), num(256), api.ErrSize}, {i(1), num(-256), api.ErrSize},
		{u(1), uns(255), api.OK}, {u(1), uns(256), api.ErrSize}, {u(2), uns(65535), api.OK}, {u(2), uns(65536), api.ErrSize},
		{u(4), uns(1<<32 - 1), api.OK}, {u(4), uns(1 << 32), api.ErrSize}, {u(8), uns(math.MaxUint64), api.OK}, {u(8), uns(0), api.OK},
		{u(1), uns(0), api.OK}, {u(1), uns(math.MaxUint64), api.ErrSize}, {u(4), uns(1 << 63), api.ErrSize},
		{truths, truth(0), api.OK}, {truths, truth(1), api.OK},
		{b(1), text(""), api.OK}, {b(1), text("\x00"), api.OK}, {b(1), text("ab"), api.ErrSize}, {b(2), text("\xff\xfe"), api.OK},
		{b(1), text("é"), api.ErrSize}, // a size counts bytes
		{b(199), long(199), api.OK}, {b(199), long(200), api.ErrSize}, {b(200), long(200), api.OK},

		{i(1), null(), api.ErrNull}, {u(8), null(), api.ErrNull}, {truths, null(), api.ErrNull}, {b(200), null(), api.ErrNull},
		{nullable(i(1)), null(), api.OK}, {nullable(u(8)), null(), api.OK}, {nullable(truths), null(), api.OK}, {nullable(b(200)), null(), api.OK},
		{nullable(i(1)), num(127), api.OK}, {nullable(i(1)), num(128), api.ErrSize}, {nullable(b(1)), text("ab"), api.ErrSize}, {nullable(truths), num(1), api.ErrType},

		{i(8), uns(1), api.ErrType}, {i(8), truth(1), api.ErrType}, {i(8), text("1"), api.ErrType},
		{u(8), num(1), api.ErrType}, {u(8), truth(1), api.ErrType}, {u(8), text(""), api.ErrType},
		{truths, num(1), api.ErrType}, {truths, uns(1), api.ErrType}, {truths, text("\x01"), api.ErrType},
		{b(8), num(1), api.ErrType}, {b(8), uns(1), api.ErrType}, {b(8), truth(0), api.ErrType},
		{i(1), uns(1000), api.ErrType}, {u(1), num(-1), api.ErrType}, {i(1), long(200), api.ErrType}, // ErrSize is behind ErrType
	} {
		if e := schema.Fits(c.c, c.v); e != c.e {
			t.Errorf("%v, %v: %v, not %v", c.c, c.v, e, c.e)
		}
	}
}

// The column is told ahead of the value, what may not be ahead of what is too long, and that ahead of what does not fit.
func TestFitsOrder(t *testing.T) {
	wrong := []api.Column{{}, column("", 1, 1), column("X", 4, 1), column("x", 0, 0), column("x", 5, 1), column("x", 1, 3), column("x", 3, 1), column("x", 4, 0), column("x", 4, 201)}
	for _, c := range wrong {
		for _, v := range []api.Value{null(), num(1), none(), long(201), truth(2)} {
			for _, c := range []api.Column{c, nullable(c)} {
				if e := schema.Fits(c, v); e != api.ErrArg {
					t.Errorf("%v, %.50v: %v", c, v, e)
				}
			}
		}
	}
	for _, c := range []api.Column{column("x", 1, 1), column("x", 2, 8), column("x", 3, 0), column("x", 4, 1), column("x", 4, 200)} {
		for _, c := range []api.Column{c, nullable(c)} {
			for _, v := range []api.Value{none(), {Kind: -1}, {Kind: math.MaxInt}, {Kind: 0, Int: 1}, {Kind: 0, Uint: 1}, {Kind: 0, Bytes: "x"}, {Kind: 1, Uint: 1}, {Kind: 1, Bytes: "x"},
				{Kind: 2, Int: 1}, {Kind: 2, Bytes: "x"}, truth(2), truth(-1), {Kind: 3, Uint: 1}, {Kind: 4, Int: 1}, {Kind: 4, Uint: 1, Bytes: strings.Repeat("x", 201)}} {
				if e := schema.Fits(c, v); e != api.ErrArg {
					t.Errorf("%v, %.50v: %v", c, v, e)
				}
			}
			for _, n := range []int{201, 1000, 100000} {
				if e := schema.Fits(c, long(n)); e != api.ErrLong {
					t.Errorf("%v, %d: %v", c, n, e)
				}
			}
		}
	}
}

func TestRow(t *testing.T) {
	two := api.Schema{Columns: []api.Column{column("a", api.TypeInt, 1), nullable(column("b", api.TypeBytes, 2))}, Key: []int{0}}
	bad := two
	bad.Key = []int{1}
	for i, c := range []struct {
		s   api.Schema
		row []api.Value
		e   api.Errno
	}{
		{two, row(num(127), null()), api.OK},
		{two, row(num(-128), text("\x00\xff")), api.OK},
		{two, row(num(128), null()), api.ErrSize},
		{two, row(null(), null()), api.ErrNull},
		{two, row(num(1)), api.ErrCount},
		{two, row(num(1), num(2)), api.ErrType},
		{two, row(num(1), text("abc")), api.ErrSize},
		{two, nil, api.ErrCount},
		{two, row(), api.ErrCount},
		{two, row(num(1), null(), null()), api.ErrCount},
		{two, make([]api.Value, 100000), api.ErrCount},
		{two, row(none()), api.ErrCount}, // the count is told ahead of the values
		{two, row(long(201), none(), none()), api.ErrCount},
		{two, row(num(1), none()), api.ErrArg},
		{two, row(num(1), long(201)), api.ErrLong},
		{two, row(num(1), truth(2)), api.ErrArg},
		// the first value that is wrong is told, whatever of it is
		{two, row(num(128), none()), api.ErrSize},
		{two, row(null(), long(201)), api.ErrNull},
		{two, row(uns(1), none()), api.ErrType},
		{two, row(long(201), none()), api.ErrLong},
		{two, row(none(), long(201)), api.ErrArg},
		// the schema is told ahead of all else
		{bad, row(num(1), null()), api.ErrArg},
		{bad, row(num(1)), api.ErrArg},
		{bad, row(null(), long(201)), api.ErrArg},
		{api.Schema{}, nil, api.ErrArg},
		{api.Schema{}, row(num(1)), api.ErrArg},
		{api.Schema{Columns: many(9), Key: []int{0}}, row(num(1)), api.ErrArg},

		{plain(), row(num(1), null(), uns(65535), truth(1), null()), api.OK},
		{plain(), row(num(1), text(""), uns(0), truth(0), num(math.MinInt64)), api.OK},
		{plain(), row(num(1), null(), uns(1), null(), null()), api.ErrNull},
		{plain(), row(num(1), null(), uns(65536), null(), none()), api.ErrSize},
		{plain(), row(num(1), null(), uns(1), truth(1), uns(1)), api.ErrType},
	} {
		if e := schema.Row(c.s, c.row...); e != c.e {
			t.Errorf("%d: %v, not %v", i, e, c.e)
		}
	}
}

// P3.2

func TestPlace(t *testing.T) {
	named := func(names ...string) api.Schema {
		var s api.Schema
		for _, n := range names {
			s.Columns = append(s.Columns, api.Column{Name: n})
		}
		return s
	}
	last := named(slices.Repeat([]string{"a"}, 1000)...)
	last.Columns = append(last.Columns, api.Column{Name: "b"})
	for _, c := range []struct {
		s    api.Schema
		name string
		at   int
		is   bool
	}{
		{plain(), "a", 0, true},
		{plain(), "b", 1, true},
		{plain(), "c_1", 2, true},
		{plain(), "e", 4, true},
		{plain(), "c", 0, false},
		{plain(), "c_", 0, false},
		{plain(), "c_12", 0, false},
		{plain(), "A", 0, false},
		{plain(), "", 0, false},
		{plain(), strings.Repeat("a", 100000), 0, false},
		// of schemas that may not be, too
		{api.Schema{}, "a", 0, false},
		{api.Schema{}, "", 0, false},
		{named("a", "b", "a", "b"), "b", 1, true},
		{named("", "x", ""), "", 0, true},
		{named("x", "", ""), "", 1, true},
		{named("x", "\xff\x00", "É"), "\xff\x00", 1, true},
		{named("x", "\xff\x00", "É"), "É", 2, true},
		{named("x", "\xff\x00", "É"), "é", 0, false},
		{named("a", strings.Repeat("a", 1000)), strings.Repeat("a", 1000), 1, true},
		{last, "b", 1000, true},
		{last, "a", 0, true},
	} {
		if at, is := schema.Place(c.s, c.name); at != c.at || is != c.is {
			t.Errorf("%.100v, %.30q: %d, %t, not %d, %t", c.s, c.name, at, is, c.at, c.is)
		}
	}
}

func TestPick(t *testing.T) {
	l := row(num(1), text("\x02"), null(), none(), long(201))
	for _, c := range []struct {
		row  []api.Value
		at   []int
		want []api.Value
		e    api.Errno
	}{
		{row(num(1), text("\x02")), []int{1, 0}, row(text("\x02"), num(1)), api.OK},
		{l, nil, nil, api.OK},
		{l, []int{}, nil, api.OK},
		{nil, nil, nil, api.OK},
		{l, []int{0}, row(num(1)), api.OK},
		{l, []int{4}, row(long(201)), api.OK}, // they are not checked
		{l, []int{3, 2}, row(none(), null()), api.OK},
		{l, []int{0, 1, 2, 3, 4}, l, api.OK},
		{l, []int{4, 3, 2, 1, 0}, row(long(201), none(), null(), text("\x02"), num(1)), api.OK},
		{l, []int{1, 1, 0, 1}, row(text("\x02"), text("\x02"), num(1), text("\x02")), api.OK}, // one place, many times
		{l, []int{5}, nil, api.ErrRange},
		{l, []int{-1}, nil, api.ErrRange},
		{l, []int{0, 1, 5}, nil, api.ErrRange},
		{l, []int{-1, 0, 1}, nil, api.ErrRange},
		{l, []int{0, math.MaxInt}, nil, api.ErrRange},
		{l, []int{math.MinInt, 0}, nil, api.ErrRange},
		{nil, []int{0}, nil, api.ErrRange},
		{row(), []int{0}, nil, api.ErrRange},
		{l[:2], []int{2}, nil, api.ErrRange}, // the room behind a row is none of it
	} {
		got, e := schema.Pick(c.row, c.at...)
		if !slices.Equal(got, c.want) || e != c.e || e != api.OK && got != nil {
			t.Errorf("%.100v, %v: %.100v, %v, not %.100v, %v", c.row, c.at, got, e, c.want, c.e)
		}
	}
	if got, e := schema.Pick(row(num(7)), make([]int, 10000)...); e != api.OK || !slices.Equal(got, slices.Repeat(row(num(7)), 10000)) {
		t.Error("one place, ten thousand times:", e)
	}
}

// P3.3

// sets gathers what Sets goes over, up to so many sets, and asks for the numbers.
func sets(t *testing.T, s api.Schema, most int) [][]int {
	t.Helper()
	var l [][]int
	for n, places := range schema.Sets(s) {
		if n != len(l) {
			t.Errorf("%v: set %d as number %d", s, len(l), n)
		}
		l = append(l, places)
		if len(l) == most {
			break
		}
	}
	return l
}

func TestSets(t *testing.T) {
	for _, c := range []struct {
		s    api.Schema
		want [][]int
	}{
		{plain(), [][]int{{2, 0}, {1}, {4, 3, 0}}},
		{api.Schema{Columns: many(1), Key: []int{0}}, [][]int{{0}}},
		{api.Schema{Columns: many(8), Key: []int{7, 6, 5, 4}, Uniques: [][]int{{0, 1, 2, 3}, {7}, {7, 6, 5, 4}}}, [][]int{{7, 6, 5, 4}, {0, 1, 2, 3}, {7}, {7, 6, 5, 4}}},
		// over none of a schema that may not be
		{api.Schema{}, nil},
		{api.Schema{Columns: many(9), Key: []int{0}}, nil},
		{with(func(s *api.Schema) { s.Columns[3].Name = "D" }), nil},
		{with(func(s *api.Schema) { s.Columns[3].Name = "a" }), nil},
		{with(func(s *api.Schema) { s.Key = []int{1} }), nil},
		{with(func(s *api.Schema) { s.Uniques = [][]int{{1}, {5}} }), nil},
		{with(func(s *api.Schema) { s.Uniques = [][]int{{1}, {2}, {3}, {4}} }), nil},
	} {
		if l := sets(t, c.s, 99); !reflect.DeepEqual(l, c.want) {
			t.Errorf("%.200v: %v, not %v", c.s, l, c.want)
		}
	}
}

func TestSetsIsLeftAndGoneOverAgain(t *testing.T) {
	want := [][]int{{2, 0}, {1}, {4, 3, 0}}
	for most := 1; most <= len(want); most++ {
		if l := sets(t, plain(), most); !reflect.DeepEqual(l, want[:most]) {
			t.Error(most, l)
		}
	}
	all := schema.Sets(plain())
	for most := 1; most <= 4; most++ { // the same one, left ever later
		var l [][]int
		for _, places := range all {
			if l = append(l, places); len(l) == most {
				break
			}
		}
		if !reflect.DeepEqual(l, want[:min(most, 3)]) {
			t.Error(most, l)
		}
	}
	for n, outer := range all { // one within another
		inner := maps.Collect(all)
		if !slices.Equal(outer, want[n]) || !reflect.DeepEqual(inner, map[int][]int{0: want[0], 1: want[1], 2: want[2]}) {
			t.Error(n, outer, inner)
		}
	}
}

// What is handed in is not kept, and what is handed out is not either.
func TestSetsKeepsNothing(t *testing.T) {
	s := plain()
	all := schema.Sets(s)
	s.Columns[0].Name = "no name"
	s.Key[0], s.Uniques[1][0] = 77, 77
	s.Uniques[0] = nil
	want := [][]int{{2, 0}, {1}, {4, 3, 0}}
	for range 2 {
		for n, places := range all {
			if !slices.Equal(places, want[n]) {
				t.Error(n, places)
			}
			places = places[:cap(places)]
			for i := range places {
				places[i] = 88
			}
		}
	}
	if s.Key[0] != 77 || s.Key[1] != 0 || !reflect.DeepEqual(s.Uniques, [][]int{nil, {77, 3, 0}}) {
		t.Error(s)
	}
	bad := api.Schema{Columns: many(2), Key: []int{2}}
	none := schema.Sets(bad)
	bad.Key[0] = 1 // too late
	for n, places := range none {
		t.Error(n, places)
	}
}

func TestSame(t *testing.T) {
	odd := func() api.Schema {
		return api.Schema{Columns: []api.Column{{Name: "\xff", Type: 99, Size: -5}, {}, {}}, Key: []int{-1, 7, 7}, Uniques: [][]int{nil, {9}, nil, nil, nil}}
	}
	for i, s := range []api.Schema{plain(), {}, odd(), {Columns: many(1000), Key: make([]int, 1000), Uniques: make([][]int, 1000)}} {
		if !schema.Same(s, s) {
			t.Error(i, "is not as itself")
		}
	}
	if !schema.Same(plain(), plain()) || !schema.Same(odd(), odd()) {
		t.Error("is not as another one made so")
	}
	// nil and empty mean the same, inside other things too
	for _, c := range [][2]api.Schema{
		{{}, {Columns: []api.Column{}, Key: []int{}, Uniques: [][]int{}}},
		{{Uniques: [][]int{nil, {}}}, {Uniques: [][]int{{}, nil}}},
		{{Columns: many(1), Key: []int{0}}, {Columns: many(1), Key: []int{0}, Uniques: [][]int{}}},
	} {
		if !schema.Same(c[0], c[1]) || !schema.Same(c[1], c[0]) {
			t.Error(c)
		}
	}
	for i, change := range []func(*api.Schema){
		func(s *api.Schema) { s.Columns[0].Name = "z" },
		func(s *api.Schema) { s.Columns[4].Name = "E" },
		func(s *api.Schema) { s.Columns[0].Type = api.TypeUint },
		func(s *api.Schema) { s.Columns[1].Size = 3 },
		func(s *api.Schema) { s.Columns[0].Null = true },
		func(s *api.Schema) { s.Columns[4].Null = false },
		func(s *api.Schema) { s.Columns[0], s.Columns[1] = s.Columns[1], s.Columns[0] },
		func(s *api.Schema) { s.Columns = s.Columns[:4] },
		func(s *api.Schema) { s.Columns = s.Columns[1:] },
		func(s *api.Schema) { s.Columns = append(s.Columns, api.Column{}) },
		func(s *api.Schema) { s.Columns = nil },
		func(s *api.Schema) { s.Key = []int{0, 2} },
		func(s *api.Schema) { s.Key = []int{2} },
		func(s *api.Schema) { s.Key = []int{2, 0, 3} },
		func(s *api.Schema) { s.Key = []int{2, 3} },
		func(s *api.Schema) { s.Key = nil },
		func(s *api.Schema) { s.Uniques = nil },
		func(s *api.Schema) { s.Uniques = s.Uniques[:1] },
		func(s *api.Schema) { s.Uniques = append(s.Uniques, nil) },
		func(s *api.Schema) { s.Uniques = append(s.Uniques, []int{1}) },
		func(s *api.Schema) { s.Uniques[0], s.Uniques[1] = s.Uniques[1], s.Uniques[0] },
		func(s *api.Schema) { s.Uniques[0] = []int{2} },
		func(s *api.Schema) { s.Uniques[0] = nil },
		func(s *api.Schema) { s.Uniques[1] = []int{4, 3} },
		func(s *api.Schema) { s.Uniques[1] = []int{0, 3, 4} },
		func(s *api.Schema) { s.Uniques[1] = []int{4, 3, 1} },
		func(s *api.Schema) { s.Key, s.Uniques[0] = s.Uniques[0], s.Key },
		func(s *api.Schema) { s.Uniques = [][]int{{1, 4, 3, 0}} }, // the same places, parted otherwise
		func(s *api.Schema) { s.Uniques = [][]int{{1, 4}, {3, 0}} },
	} {
		if a, b := plain(), with(change); schema.Same(a, b) || schema.Same(b, a) {
			t.Error(i, b)
		}
	}
}

// P3.4

// someColumn makes columns that may be, and, one time in so many, others.
func someColumn(r *rand.Rand, wrong int) api.Column {
	one := func(l ...int) int { return l[r.Intn(len(l))] }
	c := api.Column{Name: fmt.Sprintf("%c%d", 'a'+r.Intn(4), r.Intn(30)), Type: api.TypeKind(1 + r.Intn(4)), Null: r.Intn(3) == 0}
	switch c.Type {
	case api.TypeInt, api.TypeUint:
		c.Size = one(1, 2, 4, 8)
	case api.TypeBytes:
		c.Size = one(1, 2, 3, 4, 8, 199, 200, 1+r.Intn(200))
	}
	if r.Intn(wrong) == 0 {
		switch r.Intn(3) {
		case 0:
			c.Name = []string{"", "A", "0", "a-", strings.Repeat("a", 25)}[r.Intn(5)]
		case 1:
			c.Type = api.TypeKind(one(-1, 0, 1, 2, 3, 4, 5))
		case 2:
			c.Size = one(-1, 0, 1, 3, 8, 9, 16, 64, 200, 201)
		}
	}
	return c
}

// someSchema makes schemas of which many may be, and others are near that.
func someSchema(r *rand.Rand) api.Schema {
	var s api.Schema
	for range 1 + r.Intn(8) {
		s.Columns = append(s.Columns, someColumn(r, 60))
	}
	if r.Intn(20) == 0 {
		s.Columns = append(s.Columns, many(r.Intn(9))...)
	}
	places := func() []int {
		l := r.Perm(len(s.Columns))[:min(len(s.Columns), 1+r.Intn(4))]
		if r.Intn(30) == 0 {
			l = append(l, r.Intn(12)-2)
		}
		if r.Intn(30) == 0 {
			l = l[1:]
		}
		return l
	}
	s.Key = places()
	for _, at := range s.Key {
		if at >= 0 && at < len(s.Columns) && r.Intn(10) > 0 {
			s.Columns[at].Null = false
		}
	}
	for range r.Intn(4) {
		s.Uniques = append(s.Uniques, places())
	}
	if r.Intn(30) == 0 {
		s.Uniques = append(s.Uniques, places())
	}
	return s
}

// someValue makes values near the bounds of columns, null, and some that may not be.
func someValue(r *rand.Rand, c api.Column) api.Value {
	near := int64(1)<<max(0, 8*[]int{0, 1, 2, 4, 8}[r.Intn(5)]-r.Intn(2)) + int64(r.Intn(5)-2)
	kind := c.Type
	if r.Intn(12) == 0 {
		kind = api.TypeKind(r.Intn(5))
	}
	if r.Intn(30) == 0 {
		return []api.Value{none(), truth(2), {Kind: 1, Uint: 1}, {Int: 1}, long(201)}[r.Intn(5)]
	}
	switch {
	case r.Intn(8) == 0, kind == 0:
		return null()
	case kind == api.TypeInt:
		return num([]int64{near, -near, int64(r.Intn(256)) - 128}[r.Intn(3)])
	case kind == api.TypeUint:
		return uns([]uint64{uint64(near), uint64(r.Intn(256))}[r.Intn(2)])
	case kind == api.TypeBool:
		return truth(int64(r.Intn(2)))
	}
	return long(min(max(0, []int{c.Size, c.Size - 1, c.Size + 1, r.Intn(201)}[r.Intn(4)]), 200))
}

func TestCheckIsAsTheChapterSays(t *testing.T) {
	r := rand.New(rand.NewSource(1))
	may := 0
	for range 20000 {
		s := someSchema(r)
		due := api.ErrArg
		if maySchema(s) {
			due = api.OK
			may++
		}
		if e := schema.Check(s); e != due {
			t.Fatal(s, e, due)
		}
		want := append([][]int{s.Key}, s.Uniques...)
		if due != api.OK {
			want = nil
		}
		if l := sets(t, s, 99); !slices.EqualFunc(l, want, slices.Equal) {
			t.Fatal(s, l)
		}
	}
	if may < 4000 || may > 16000 {
		t.Error("too few of the one, or of the other:", may)
	}
}

func TestARowFitsJustIfEachValueDoes(t *testing.T) {
	r := rand.New(rand.NewSource(2))
	seen := map[api.Errno]int{}
	for range 40000 {
		s := someSchema(r)
		var l []api.Value
		for _, c := range s.Columns {
			l = append(l, someValue(r, c))
		}
		if r.Intn(10) == 0 {
			l = l[1:]
		}
		due := api.ErrArg
		if maySchema(s) {
			due = api.ErrCount
			if len(l) == len(s.Columns) {
				due = api.OK
				for at, v := range l {
					if e := fits(s.Columns[at], v); e != schema.Fits(s.Columns[at], v) {
						t.Fatal(s.Columns[at], v, e)
					} else if due == api.OK {
						due = e
					}
				}
			}
		}
		e := schema.Row(s, l...)
		if e != due {
			t.Fatal(s, l, e, due)
		}
		seen[e]++
		if e != api.OK {
			continue
		}
		for n, places := range schema.Sets(s) {
			picked, e := schema.Pick(l, places...)
			if e != api.OK || len(picked) != len(places) {
				t.Fatal(s, l, n, e)
			}
			for i, at := range places {
				if picked[i] != l[at] || n == 0 && picked[i] == null() {
					t.Fatal(s, l, n, picked)
				}
			}
		}
	}
	for _, e := range []api.Errno{api.OK, api.ErrArg, api.ErrLong, api.ErrCount, api.ErrNull, api.ErrType, api.ErrSize} {
		if seen[e] < 30 {
			t.Error("seen too seldom:", e, seen[e])
		}
	}
}

func TestWhatFitsFitsGreaterColumns(t *testing.T) {
	r := rand.New(rand.NewSource(3))
	fit := 0
	for range 40000 {
		c := someColumn(r, math.MaxInt32)
		v := someValue(r, c)
		e := schema.Fits(c, v)
		if due := fits(c, v); e != due {
			t.Fatal(c, v, e, due)
		}
		if e != api.OK {
			continue
		}
		fit++
		if e := schema.Fits(nullable(c), v); e != api.OK {
			t.Fatal(c, v, e)
		}
		for _, size := range []int{1, 2, 4, 8, 16, 100, 200} {
			g := c
			if g.Size = size; size > c.Size && mayColumn(g) {
				if e := schema.Fits(g, v); e != api.OK {
					t.Fatal(g, v, e)
				}
			}
		}
	}
	if fit < 10000 {
		t.Error("too few fit:", fit)
	}
}

// Each number at, and next to, each power of two, in columns of each size.
func TestBoundsAtAllPowers(t *testing.T) {
	for bit := range 64 {
		for off := -2; off <= 2; off++ {
			n := uint64(1)<<bit + uint64(off)
			for _, size := range []int{1, 2, 4, 8} {
				for _, v := range []api.Value{num(int64(n)), num(-int64(n)), uns(n)} {
					c := column("x", api.TypeKind(v.Kind), size)
					if e, due := schema.Fits(c, v), fits(c, v); e != due {
						t.Error(c, v, e, due)
					}
				}
			}
		}
	}
	for size := 1; size <= 200; size++ {
		for n := range 201 {
			c := column("x", api.TypeBytes, size)
			if e, due := schema.Fits(c, long(n)), fits(c, long(n)); e != due {
				t.Error(size, n, e, due)
			}
		}
	}
}

// Rules that hold everywhere.

func TestNothingHandedInIsChanged(t *testing.T) {
	room := func() api.Schema {
		s := plain()
		s.Columns = append(s.Columns, many(20)...)[:5]
		s.Key = append(s.Key, 90, 91, 92)[:2]
		s.Uniques = append(s.Uniques, []int{93})[:2]
		s.Uniques[0] = append(s.Uniques[0], 94, 95)[:1]
		return s
	}
	whole := func(s api.Schema) api.Schema {
		s.Columns, s.Key, s.Uniques = s.Columns[:cap(s.Columns)], s.Key[:cap(s.Key)], slices.Clone(s.Uniques[:cap(s.Uniques)])
		for i, set := range s.Uniques {
			s.Uniques[i] = set[:cap(set)]
		}
		return s
	}
	s, was := room(), room()
	l := row(num(1), null(), uns(1), truth(1), null(), none(), none())[:5]
	at := []int{4, 0, 1, 77, 78}[:3]
	schema.Check(s)
	schema.Fits(s.Columns[0], l[0])
	schema.Row(s, l...)
	schema.Place(s, "e")
	schema.Pick(l, at...)
	schema.Same(s, s)
	for _, places := range schema.Sets(s) {
		clear(places[:cap(places)])
	}
	if !reflect.DeepEqual(whole(s), whole(was)) {
		t.Error(whole(s))
	}
	if !slices.Equal(l[:7], row(num(1), null(), uns(1), truth(1), null(), none(), none())) || !slices.Equal(at[:5], []int{4, 0, 1, 77, 78}) {
		t.Error(l, at)
	}
}

func TestAnswersAreNewMemory(t *testing.T) {
	l := row(num(1), num(2), num(3))
	a, _ := schema.Pick(l, 0, 1, 2)
	b, _ := schema.Pick(l, 0, 1, 2)
	for i := range a[:cap(a)] {
		a[:cap(a)][i] = none()
	}
	if want := row(num(1), num(2), num(3)); !slices.Equal(l, want) || !slices.Equal(b, want) {
		t.Error(l, b)
	}
	s := plain()
	for _, places := range schema.Sets(s) {
		for i := range places[:cap(places)] {
			places[:cap(places)][i] = 77
		}
	}
	if !reflect.DeepEqual(s, plain()) {
		t.Error(s)
	}
}

// Answers hang on the arguments alone.
func TestAnswersStayTheSame(t *testing.T) {
	r := rand.New(rand.NewSource(4))
	for range 2000 {
		s := someSchema(r)
		l := row(someValue(r, s.Columns[0]))
		for range 3 {
			if schema.Check(s) != schema.Check(s) || schema.Row(s, l...) != schema.Row(s, l...) || !schema.Same(s, s) {
				t.Fatal(s, l)
			}
		}
	}
}
