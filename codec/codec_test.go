package codec_test

import (
	"bytes"
	"encoding/binary"
	"fmt"
	"iter"
	"math"
	"math/rand"
	"reflect"
	"slices"
	"strings"
	"testing"

	"swingbridge/api"
	"swingbridge/codec"
	"swingbridge/schema"
)

func null() api.Value                { return api.Value{} }
func num(n int64) api.Value          { return api.Value{Kind: api.ValueInt, Int: n} }
func uns(n uint64) api.Value         { return api.Value{Kind: api.ValueUint, Uint: n} }
func truth(n int64) api.Value        { return api.Value{Kind: api.ValueBool, Int: n} }
func text(s string) api.Value        { return api.Value{Kind: api.ValueBytes, Bytes: s} }
func long(n int) api.Value           { return text(strings.Repeat("x", n)) }
func none() api.Value                { return api.Value{Kind: 5} }
func row(l ...api.Value) []api.Value { return l }

func column(name string, t api.TypeKind, size int) api.Column {
	return api.Column{Name: name, Type: t, Size: size}
}

func nullable(c api.Column) api.Column {
	c.Null = true
	return c
}

// many are so many columns, each another one, none of which may be null.
func many(n int) []api.Column {
	l := make([]api.Column, n)
	for i := range l {
		l[i] = column(fmt.Sprint("c", i), api.TypeInt, 8)
	}
	return l
}

// small is the chapter's own schema.
func small() api.Schema {
	return api.Schema{Columns: []api.Column{column("a", api.TypeInt, 1), nullable(column("b", api.TypeBytes, 2))}, Key: []int{0}}
}

// plain is a schema of all types, two of whose columns may be null.
func plain() api.Schema {
	return api.Schema{
		Columns: []api.Column{
			column("a", api.TypeInt, 1),
			nullable(column("b", api.TypeBytes, 2)),
			column("c_1", api.TypeUint, 2),
			column("d", api.TypeBool, 0),
			nullable(column("e", api.TypeInt, 8)),
		},
		Key:     []int{2, 0},
		Uniques: [][]int{{1}, {4, 3, 0}},
	}
}

// of is a schema of one column, and of one behind it that is the Key.
func of(c api.Column) api.Schema {
	return api.Schema{Columns: []api.Column{c, column("key", api.TypeBool, 0)}, Key: []int{1}}
}

// wrong are schemas that may not be.
func wrong() []api.Schema {
	with := func(change func(*api.Schema)) api.Schema {
		s := plain()
		change(&s)
		return s
	}
	return []api.Schema{
		{},
		{Columns: many(9), Key: []int{0}},
		{Columns: many(100000), Key: []int{0}},
		{Key: []int{0}},
		{Columns: many(2)},
		{Columns: many(5), Key: []int{0, 1, 2, 3, 4}},
		with(func(s *api.Schema) { s.Columns[0].Name = "A" }),
		with(func(s *api.Schema) { s.Columns[4].Name = "" }),
		with(func(s *api.Schema) { s.Columns[4].Name = strings.Repeat("e", 25) }),
		with(func(s *api.Schema) { s.Columns[4].Name = "a" }),
		with(func(s *api.Schema) { s.Columns[4].Type = api.TypeNone }),
		with(func(s *api.Schema) { s.Columns[4].Type = 5 }),
		with(func(s *api.Schema) { s.Columns[4].Type = -1 }),
		with(func(s *api.Schema) { s.Columns[4].Size = 3 }),
		with(func(s *api.Schema) { s.Columns[4].Size = math.MinInt }),
		with(func(s *api.Schema) { s.Columns[3].Size = 1 }),
		with(func(s *api.Schema) { s.Columns[1].Size = 0 }),
		with(func(s *api.Schema) { s.Columns[1].Size = 201 }),
		with(func(s *api.Schema) { s.Columns[1].Size = math.MaxInt }),
		with(func(s *api.Schema) { s.Key = []int{4} }), // it may be null
		with(func(s *api.Schema) { s.Key = []int{0, 0} }),
		with(func(s *api.Schema) { s.Key = []int{5} }),
		with(func(s *api.Schema) { s.Key = []int{-1} }),
		with(func(s *api.Schema) { s.Uniques[1] = nil }),
		with(func(s *api.Schema) { s.Uniques[1] = []int{0, math.MaxInt} }),
		with(func(s *api.Schema) { s.Uniques = [][]int{{0}, {1}, {2}, {3}} }),
	}
}

// numberOf, textOf, rowOf and schemaOf say over again what the chapters say, in another way than the packages.
func numberOf(n uint64) string {
	b := bytes.TrimLeft(binary.BigEndian.AppendUint64(nil, n), "\x00")
	return string(rune(len(b))) + string(b)
}

func textOf(s string) string { return numberOf(uint64(len(s))) + s }

func rowOf(s api.Schema, row []api.Value) string {
	var b strings.Builder
	for i, c := range s.Columns {
		v := row[i]
		switch v.Kind {
		case api.ValueNull:
			b.WriteString("\x00")
			continue
		case api.ValueInt, api.ValueUint:
			n := v.Uint
			if v.Kind == api.ValueInt {
				n = uint64(v.Int)
			}
			b.WriteString("\x01" + string(binary.BigEndian.AppendUint64(nil, n))[8-c.Size:])
		case api.ValueBool:
			b.WriteString("\x01" + string([]byte{byte(v.Int)}))
		case api.ValueBytes:
			b.WriteString("\x01" + textOf(v.Bytes))
		}
	}
	return b.String()
}

func schemaOf(s api.Schema) string {
	places := func(l []int) string {
		b := numberOf(uint64(len(l)))
		for _, at := range l {
			b += numberOf(uint64(at))
		}
		return b
	}
	b := numberOf(uint64(len(s.Columns)))
	for _, c := range s.Columns {
		b += textOf(c.Name) + numberOf(uint64(c.Type)) + numberOf(uint64(c.Size))
		if c.Null {
			b += "\x01\x01"
		} else {
			b += "\x00"
		}
	}
	b += places(s.Key) + numberOf(uint64(len(s.Uniques)))
	for _, l := range s.Uniques {
		b += places(l)
	}
	return b
}

// someSchema makes schemas that may be.
func someSchema(r *rand.Rand) api.Schema {
	var s api.Schema
	one := func(l ...int) int { return l[r.Intn(len(l))] }
	for i := range 1 + r.Intn(8) {
		c := column(fmt.Sprint("c", i), api.TypeKind(1+r.Intn(4)), 0)
		switch c.Type {
		case api.TypeInt, api.TypeUint:
			c.Size = one(1, 2, 4, 8)
		case api.TypeBytes:
			c.Size = one(1, 2, 3, 4, 8, 199, 200, 1+r.Intn(200))
		}
		if c.Null = r.Intn(3) == 0; r.Intn(4) == 0 {
			c.Name = fmt.Sprintf("%s_%0*d", c.Name, one(1, 5, 21), r.Intn(10)) // up to the bound
		}
		s.Columns = append(s.Columns, c)
	}
	places := func() []int { return r.Perm(len(s.Columns))[:min(len(s.Columns), 1+r.Intn(4))] }
	s.Key = places()
	for _, at := range s.Key {
		s.Columns[at].Null = false
	}
	for range r.Intn(4) {
		s.Uniques = append(s.Uniques, places())
	}
	return s
}

// someRow makes rows that fit, with bounds often among their values.
func someRow(r *rand.Rand, s api.Schema) []api.Value {
	l := make([]api.Value, len(s.Columns))
	for i, c := range s.Columns {
		n := r.Uint64() >> r.Intn(64)
		n = []uint64{0, 1, math.MaxUint64, 1 << 63, 1 << (8*c.Size - min(c.Size, 1)), 127, 128, n, n, n}[r.Intn(10)]
		gap := 64 - 8*c.Size
		switch {
		case c.Null && r.Intn(4) == 0:
		case c.Type == api.TypeInt:
			l[i] = num(int64(n) << gap >> gap)
		case c.Type == api.TypeUint:
			l[i] = uns(n << gap >> gap)
		case c.Type == api.TypeBool:
			l[i] = truth(int64(n & 1))
		case c.Type == api.TypeBytes:
			b := make([]byte, []int{0, 1, c.Size - 1, c.Size, r.Intn(c.Size + 1)}[r.Intn(5)])
			r.Read(b)
			l[i] = text(string(b))
		}
	}
	return l
}

// P4.1

// rows are schemas, rows that fit, and their bytes.
var rows = []struct {
	s   api.Schema
	row []api.Value
	b   string
}{
	{small(), row(num(-1), null()), "\x01\xff\x00"},
	{small(), row(num(1), text("\x02\x03")), "\x01\x01\x01\x01\x02\x02\x03"},
	{small(), row(num(0), text("")), "\x01\x00\x01\x00"},
	{small(), row(num(127), text("\x00")), "\x01\x7f\x01\x01\x01\x00"},
	{small(), row(num(-128), text("\xff\xfe")), "\x01\x80\x01\x01\x02\xff\xfe"},
	{plain(), row(num(1), null(), uns(258), truth(1), null()), "\x01\x01\x00\x01\x01\x02\x01\x01\x00"},
	{plain(), row(num(-2), text(""), uns(65535), truth(0), num(math.MinInt64)), "\x01\xfe\x01\x00\x01\xff\xff\x01\x00\x01\x80\x00\x00\x00\x00\x00\x00\x00"},
	{of(column("a", api.TypeInt, 2)), row(num(-32768), truth(0)), "\x01\x80\x00\x01\x00"},
	{of(column("a", api.TypeInt, 2)), row(num(32767), truth(1)), "\x01\x7f\xff\x01\x01"},
	{of(column("a", api.TypeInt, 2)), row(num(-2), truth(1)), "\x01\xff\xfe\x01\x01"},
	{of(column("a", api.TypeInt, 2)), row(num(255), truth(1)), "\x01\x00\xff\x01\x01"},
	{of(column("a", api.TypeInt, 4)), row(num(math.MinInt32), truth(0)), "\x01\x80\x00\x00\x00\x01\x00"},
	{of(column("a", api.TypeInt, 4)), row(num(math.MaxInt32), truth(0)), "\x01\x7f\xff\xff\xff\x01\x00"},
	{of(column("a", api.TypeInt, 8)), row(num(math.MinInt64), truth(0)), "\x01\x80\x00\x00\x00\x00\x00\x00\x00\x01\x00"},
	{of(column("a", api.TypeInt, 8)), row(num(math.MaxInt64), truth(0)), "\x01\x7f\xff\xff\xff\xff\xff\xff\xff\x01\x00"},
	{of(column("a", api.TypeInt, 8)), row(num(-1), truth(0)), "\x01\xff\xff\xff\xff\xff\xff\xff\xff\x01\x00"},
	{of(column("a", api.TypeUint, 1)), row(uns(255), truth(0)), "\x01\xff\x01\x00"},
	{of(column("a", api.TypeUint, 1)), row(uns(0), truth(0)), "\x01\x00\x01\x00"},
	{of(column("a", api.TypeUint, 4)), row(uns(0x01020304), truth(0)), "\x01\x01\x02\x03\x04\x01\x00"},
	{of(column("a", api.TypeUint, 4)), row(uns(math.MaxUint32), truth(0)), "\x01\xff\xff\xff\xff\x01\x00"},
	{of(column("a", api.TypeUint, 8)), row(uns(math.MaxUint64), truth(0)), "\x01\xff\xff\xff\xff\xff\xff\xff\xff\x01\x00"},
	{of(column("a", api.TypeUint, 8)), row(uns(1), truth(0)), "\x01\x00\x00\x00\x00\x00\x00\x00\x01\x01\x00"},
	{of(nullable(column("a", api.TypeUint, 8))), row(null(), truth(0)), "\x00\x01\x00"},
	{of(nullable(column("a", api.TypeBool, 0))), row(null(), truth(1)), "\x00\x01\x01"},
	{of(nullable(column("a", api.TypeBool, 0))), row(truth(0), truth(1)), "\x01\x00\x01\x01"},
	{of(column("a", api.TypeBytes, 200)), row(long(200), truth(1)), "\x01\x01\xc8" + strings.Repeat("x", 200) + "\x01\x01"},
	{of(column("a", api.TypeBytes, 128)), row(long(128), truth(1)), "\x01\x01\x80" + strings.Repeat("x", 128) + "\x01\x01"},
}

func TestEncode(t *testing.T) {
	for _, c := range rows {
		if b, e := codec.Encode(c.s, c.row...); string(b) != c.b || e != api.OK {
			t.Errorf("%v: %x, %v, not %x", c.row, b, e, c.b)
		}
	}
}

func TestEncodeRefuses(t *testing.T) {
	for _, c := range []struct {
		row []api.Value
		e   api.Errno
	}{
		{row(), api.ErrCount},
		{row(num(1)), api.ErrCount},
		{row(num(1), null(), null()), api.ErrCount},
		{row(none(), none(), none()), api.ErrCount}, // ErrArg of a value is behind it
		{row(none(), long(3)), api.ErrArg},
		{row(num(1), none()), api.ErrArg},
		{row(num(1), truth(2)), api.ErrArg},
		{row(num(1), api.Value{Int: 1}), api.ErrArg},
		{row(num(1), long(201)), api.ErrLong},
		{row(null(), none()), api.ErrNull},
		{row(uns(1), long(3)), api.ErrType},
		{row(num(1), truth(1)), api.ErrType},
		{row(num(128), none()), api.ErrSize},
		{row(num(-129), null()), api.ErrSize},
		{row(num(1), long(3)), api.ErrSize},
	} {
		if b, e := codec.Encode(small(), c.row...); b != nil || e != c.e {
			t.Errorf("%.99v: %x, %v, not %v", c.row, b, e, c.e)
		}
	}
	for i, s := range wrong() {
		for _, l := range [][]api.Value{nil, row(num(1), null()), row(none())} {
			if b, e := codec.Encode(s, l...); b != nil || e != api.ErrArg {
				t.Error(i, b, e)
			}
		}
	}
}

func TestDecode(t *testing.T) {
	for _, c := range rows {
		if l, e := codec.Decode(c.s, []byte(c.b)); !slices.Equal(l, c.row) || e != api.OK {
			t.Errorf("%x: %v, %v, not %v", c.b, l, e, c.row)
		}
		for cut := range len(c.b) {
			if l, e := codec.Decode(c.s, []byte(c.b)[:cut]); l != nil || e != api.ErrCode {
				t.Errorf("%x, %d: %v, %v", c.b, cut, l, e)
			}
		}
		for _, behind := range []string{"\x00", "\x01", "\xff", c.b} {
			if l, e := codec.Decode(c.s, []byte(c.b+behind)); l != nil || e != api.ErrCode {
				t.Errorf("%x %x: %v, %v", c.b, behind, l, e)
			}
		}
	}
}

func TestDecodeRefuses(t *testing.T) {
	for _, s := range []string{
		"",
		"\x00",
		"\x01",
		"\x01\xff",
		"\x01\xff\x02",
		"\x01\xff\xff",
		"\x00\x00",     // null, where that may not be
		"\x00\x01\x00", // null, and what would be a text
		"\x00\x01\x01\x00",
		"\x02\xff\x00",
		"\xff\xff\x00",
		"\x01\xff\x01",
		"\x01\xff\x01\x01",
		"\x01\xff\x01\x01\x01",
		"\x01\xff\x01\x01\x02\x00",
		"\x01\xff\x01\x01\x03xyz", // too long for the column
		"\x01\xff\x01\x01\xc9" + strings.Repeat("x", 201),
		"\x01\xff\x01\x02\x01\x00" + strings.Repeat("x", 256),
		"\x01\xff\x01\x01\x00", // a number with more than it needs
		"\x01\xff\x01\x02\x00\x01x",
		"\x01\xff\x01\x09\x01\x01\x01\x01\x01\x01\x01\x01\x01x", // with more than eight
		"\x01\xff\x01\x08\xff\xff\xff\xff\xff\xff\xff\xffx",
		"\x01\xff\x01\x08\x7f\xff\xff\xff\xff\xff\xff\xffx",
		"\x01\xff\x01\x08\x80\x00\x00\x00\x00\x00\x00\x00x",
		"\x01\xff\x01\x08\x80\x00\x00\x00\x00\x00\x00\x01x",
		"\x01\xff\x00\x00",
		"\x01\xff\x00" + strings.Repeat("\x01\xff\x00", 1000),
		strings.Repeat("\x01", 100000),
	} {
		if l, e := codec.Decode(small(), []byte(s)); l != nil || e != api.ErrCode {
			t.Errorf("%.99x: %v, %v", s, l, e)
		}
	}
	for _, s := range []string{"\x01\x02\x01\x00", "\x01\xff\x01\x00", "\x00\x01\x00", "\x01\x00\x01\x02", "\x01\x00\x01\x80", "\x01\x00\x00"} { // truths
		if l, e := codec.Decode(of(column("a", api.TypeBool, 0)), []byte(s)); l != nil || e != api.ErrCode {
			t.Errorf("%x: %v, %v", s, l, e)
		}
	}
	if l, e := codec.Decode(small(), nil); l != nil || e != api.ErrCode {
		t.Error("nil:", l, e)
	}
	for i, s := range wrong() {
		for _, b := range []string{"", "\x01\xff\x00", rows[5].b, "\x02"} {
			if l, e := codec.Decode(s, []byte(b)); l != nil || e != api.ErrArg {
				t.Error(i, l, e)
			}
		}
	}
}

// The bytes end where they end, not where the room behind them does.
func TestReadsNothingOfTheRoomBehind(t *testing.T) {
	room := []byte(rows[1].b + rows[1].b)
	if l, e := codec.Decode(small(), room[:len(rows[1].b)]); !slices.Equal(l, rows[1].row) || e != api.OK {
		t.Error(l, e)
	}
	if l, e := codec.Decode(small(), room[:len(rows[1].b)-1]); l != nil || e != api.ErrCode {
		t.Error(l, e)
	}
	for at, l := range codec.Each(small(), room[:len(rows[1].b)-1]) {
		t.Error(at, l)
	}
	whole := []byte(schemaOf(plain()))
	if s, e := codec.DecodeSchema(whole[:len(whole)-1]); !schema.Same(s, api.Schema{}) || e != api.ErrCode {
		t.Error(s, e)
	}
}

func TestWidth(t *testing.T) {
	for _, c := range []struct {
		s           api.Schema
		least, most int
	}{
		{small(), 3, 7},
		{plain(), 2 + 1 + 3 + 2 + 1, 2 + 5 + 3 + 2 + 9},
		{api.Schema{Columns: []api.Column{column("a", api.TypeBool, 0)}, Key: []int{0}}, 2, 2},
		{of(column("a", api.TypeInt, 1)), 4, 4},
		{of(column("a", api.TypeInt, 2)), 5, 5},
		{of(column("a", api.TypeInt, 4)), 7, 7},
		{of(column("a", api.TypeUint, 8)), 11, 11},
		{of(nullable(column("a", api.TypeUint, 8))), 3, 11},
		{of(nullable(column("a", api.TypeBool, 0))), 3, 4},
		{of(column("a", api.TypeBytes, 1)), 4, 6},
		{of(nullable(column("a", api.TypeBytes, 1))), 3, 6},
		{of(column("a", api.TypeBytes, 200)), 4, 205},
		{of(nullable(column("a", api.TypeBytes, 200))), 3, 205},
		{api.Schema{Columns: many(8), Key: []int{0}}, 72, 72},
	} {
		if least, most, e := codec.Width(c.s); least != c.least || most != c.most || e != api.OK {
			t.Errorf("%v: %d, %d, %v, not %d, %d", c.s, least, most, e, c.least, c.most)
		}
	}
	for i, s := range wrong() {
		if least, most, e := codec.Width(s); least != 0 || most != 0 || e != api.ErrArg {
			t.Error(i, least, most, e)
		}
	}
}

// Both bounds are those of rows that are there.
func TestWidthIsReached(t *testing.T) {
	r := rand.New(rand.NewSource(1))
	for range 3000 {
		s := someSchema(r)
		var short, full []api.Value
		for _, c := range s.Columns {
			low := map[api.TypeKind]api.Value{1: num(0), 2: uns(0), 3: truth(0), 4: text("")}[c.Type]
			high := low
			if c.Type == api.TypeBytes {
				high = long(c.Size)
			}
			if c.Null {
				low = null()
			}
			short, full = append(short, low), append(full, high)
		}
		least, most, e := codec.Width(s)
		a, f := codec.Encode(s, short...)
		b, g := codec.Encode(s, full...)
		if len(a) != least || len(b) != most || e != api.OK || f != api.OK || g != api.OK {
			t.Fatal(s, least, most, e, len(a), f, len(b), g)
		}
		for range 5 {
			if b, e := codec.Encode(s, someRow(r, s)...); len(b) < least || len(b) > most || e != api.OK {
				t.Fatal(s, least, most, len(b), e)
			}
		}
	}
}

// P4.2

var schemas = []struct {
	s api.Schema
	b string
}{
	{small(), "\x01\x02" + // columns
		"\x01\x01a" + "\x01\x01" + "\x01\x01" + "\x00" +
		"\x01\x01b" + "\x01\x04" + "\x01\x02" + "\x01\x01" +
		"\x01\x01" + "\x00" + // the Key
		"\x00"}, // no unique sets
	{plain(), "\x01\x05" +
		"\x01\x01a" + "\x01\x01" + "\x01\x01" + "\x00" +
		"\x01\x01b" + "\x01\x04" + "\x01\x02" + "\x01\x01" +
		"\x01\x03c_1" + "\x01\x02" + "\x01\x02" + "\x00" +
		"\x01\x01d" + "\x01\x03" + "\x00" + "\x00" +
		"\x01\x01e" + "\x01\x01" + "\x01\x08" + "\x01\x01" +
		"\x01\x02" + "\x01\x02" + "\x00" +
		"\x01\x02" +
		"\x01\x01" + "\x01\x01" +
		"\x01\x03" + "\x01\x04" + "\x01\x03" + "\x00"},
	{api.Schema{Columns: []api.Column{column("abcdefghijklmnopqrstuvwx", api.TypeBytes, 200)}, Key: []int{0}, Uniques: [][]int{{0}, {0}, {0}}},
		"\x01\x01" + "\x01\x18abcdefghijklmnopqrstuvwx" + "\x01\x04" + "\x01\xc8" + "\x00" + "\x01\x01" + "\x00" + "\x01\x03" + "\x01\x01\x00\x01\x01\x00\x01\x01\x00"},
	{api.Schema{Columns: many(8), Key: []int{7, 6, 5, 4}},
		"\x01\x08" +
			"\x01\x02c0\x01\x01\x01\x08\x00" + "\x01\x02c1\x01\x01\x01\x08\x00" + "\x01\x02c2\x01\x01\x01\x08\x00" + "\x01\x02c3\x01\x01\x01\x08\x00" +
			"\x01\x02c4\x01\x01\x01\x08\x00" + "\x01\x02c5\x01\x01\x01\x08\x00" + "\x01\x02c6\x01\x01\x01\x08\x00" + "\x01\x02c7\x01\x01\x01\x08\x00" +
			"\x01\x04" + "\x01\x07\x01\x06\x01\x05\x01\x04" + "\x00"},
}

func TestEncodeSchema(t *testing.T) {
	for _, c := range schemas {
		if b, e := codec.EncodeSchema(c.s); string(b) != c.b || e != api.OK {
			t.Errorf("%v: %x, %v, not %x", c.s, b, e, c.b)
		}
	}
	for i, s := range wrong() {
		if b, e := codec.EncodeSchema(s); b != nil || e != api.ErrArg {
			t.Error(i, b, e)
		}
	}
	a, _ := codec.EncodeSchema(small())
	empty := small()
	empty.Uniques = [][]int{}
	if b, e := codec.EncodeSchema(empty); !bytes.Equal(a, b) || e != api.OK {
		t.Error("no unique sets, and an empty list of them:", a, b, e)
	}
}

func TestDecodeSchema(t *testing.T) {
	for _, c := range schemas {
		if s, e := codec.DecodeSchema([]byte(c.b)); !schema.Same(s, c.s) || e != api.OK {
			t.Errorf("%x: %v, %v, not %v", c.b, s, e, c.s)
		}
		for cut := range len(c.b) {
			if s, e := codec.DecodeSchema([]byte(c.b)[:cut]); !reflect.DeepEqual(s, api.Schema{}) || e != api.ErrCode {
				t.Errorf("%x, %d: %v, %v", c.b, cut, s, e)
			}
		}
		for _, behind := range []string{"\x00", "\x01", "\xff", c.b} {
			if s, e := codec.DecodeSchema([]byte(c.b + behind)); !reflect.DeepEqual(s, api.Schema{}) || e != api.ErrCode {
				t.Errorf("%x %x: %v, %v", c.b, behind, s, e)
			}
		}
	}
}

func TestDecodeSchemaRefuses(t *testing.T) {
	const a = "\x01\x01a\x01\x01\x01\x01\x00" // a column, whole
	const huge = "\x08\xff\xff\xff\xff\xff\xff\xff\xff"
	const wide = "\x05\x01\x00\x00\x00\x01" // 1, if only 32 bits of it are taken
	key := func(b string) string { return "\x01\x01" + a + b }
	one := func(b string) string { return "\x01\x01" + b + "\x01\x01\x00\x00" }
	if _, e := codec.DecodeSchema([]byte(one(a))); e != api.OK {
		t.Fatal("the schema that all others are near:", e)
	}
	l := []string{
		"",
		"\x00",
		"\x00\x00\x00",
		"\x00\x01\x01\x00\x00", // no columns
		"\x01\x09" + strings.Repeat(a, 9) + "\x01\x01\x00\x00",
		"\x01\x02" + a + a + "\x01\x01\x00\x00", // two of one name
		"\x01\x02" + a + "\x01\x01\x00\x00",     // fewer than were told
		huge,
		huge + a,
		wide + a + "\x01\x01\x00\x00",
		"\x08\x80\x00\x00\x00\x00\x00\x00\x01" + a + "\x01\x01\x00\x00",
		"\x02\x00\x01" + a + "\x01\x01\x00\x00", // a number with more than it needs
		"\x09\x00",
		// names
		one("\x00\x01\x01\x01\x01\x00"),
		one("\x01\x01A\x01\x01\x01\x01\x00"),
		one("\x01\x02\xff\xfe\x01\x01\x01\x01\x00"),
		one("\x01\x18" + strings.Repeat("a", 23) + "-\x01\x01\x01\x01\x00"),
		one("\x01\x19" + strings.Repeat("a", 25) + "\x01\x01\x01\x01\x00"),
		one("\x03\x01\x00\x00" + strings.Repeat("a", 65536) + "\x01\x01\x01\x01\x00"),
		one(huge + "a\x01\x01\x01\x01\x00"),
		one("\x02\x00\x01a\x01\x01\x01\x01\x00"),
		// Types
		one("\x01\x01a\x00\x01\x01\x00"),
		one("\x01\x01a\x01\x05\x01\x01\x00"),
		one("\x01\x01a\x01\xff\x01\x01\x00"),
		one("\x01\x01a" + huge + "\x01\x01\x00"),
		one("\x01\x01a" + wide + "\x01\x01\x00"),
		one("\x01\x01a\x02\x00\x01\x01\x01\x00"),
		// Sizes
		one("\x01\x01a\x01\x01\x00\x00"),
		one("\x01\x01a\x01\x01\x01\x03\x00"),
		one("\x01\x01a\x01\x01\x01\x10\x00"),
		one("\x01\x01a\x01\x03\x01\x01\x00"),
		one("\x01\x01a\x01\x04\x00\x00"),
		one("\x01\x01a\x01\x04\x01\xc9\x00"),
		one("\x01\x01a\x01\x04\x02\x01\x00\x00"),
		one("\x01\x01a\x01\x01" + huge + "\x00"),
		one("\x01\x01a\x01\x01" + wide + "\x00"),
		// may it be null?
		one("\x01\x01a\x01\x01\x01\x01\x01\x01"), // not the Key
		one("\x01\x01a\x01\x01\x01\x01\x01\x02"),
		one("\x01\x01a\x01\x01\x01\x01" + huge),
		one("\x01\x01a\x01\x01\x01\x01" + wide),
		one("\x01\x01a\x01\x01\x01\x01\x02\x00\x01"),
		one("\x01\x01a\x01\x01\x01\x01\x01\x00"),
		// the Key
		key("\x00\x00"),
		key("\x01\x01\x01\x01\x00"),
		key("\x01\x02\x00\x00\x00"),
		key("\x01\x05\x00\x00\x00\x00\x00\x00"),
		key("\x01\x01" + huge + "\x00"),
		key("\x01\x01\x05\x01\x00\x00\x00\x00\x00"), // 0, if only 32 bits of it are taken
		key(huge),
		key(wide + "\x00\x00"),
		// unique sets
		key("\x01\x01\x00\x01\x01"),
		key("\x01\x01\x00\x01\x01\x00"),
		key("\x01\x01\x00\x01\x01\x01\x01\x01\x01"),
		key("\x01\x01\x00\x01\x01\x01\x02\x00\x00"),
		key("\x01\x01\x00\x01\x04" + strings.Repeat("\x01\x01\x00", 4)),
		key("\x01\x01\x00" + huge),
		key("\x01\x01\x00" + wide + "\x01\x01\x00"),
		key("\x01\x01\x00\x01\x01" + huge),
	}
	for _, b := range l {
		if s, e := codec.DecodeSchema([]byte(b)); !reflect.DeepEqual(s, api.Schema{}) || e != api.ErrCode {
			t.Errorf("%.99x: %v, %v", b, s, e)
		}
	}
	if s, e := codec.DecodeSchema(nil); !reflect.DeepEqual(s, api.Schema{}) || e != api.ErrCode {
		t.Error("nil:", s, e)
	}
	big := "\x01\x06"
	for i := range 6 {
		big += "\x01\x01" + string(rune('a'+i)) + "\x01\x01\x01\x01\x00"
	}
	if _, e := codec.DecodeSchema([]byte(big + "\x01\x04\x00\x01\x01\x01\x02\x01\x03\x00")); e != api.OK {
		t.Error("a Key of four:", e)
	}
	if _, e := codec.DecodeSchema([]byte(big + "\x01\x05\x00\x01\x01\x01\x02\x01\x03\x01\x04\x00")); e != api.ErrCode {
		t.Error("a Key of five:", e)
	}
}

// P4.3

// spot is a row, and where its bytes begin.
type spot struct {
	at  int
	row []api.Value
}

func spots(all iter.Seq2[int, []api.Value], most int) []spot {
	var l []spot
	for at, row := range all {
		if l = append(l, spot{at, row}); len(l) == most {
			break
		}
	}
	return l
}

func same(a, b []spot) bool {
	return slices.EqualFunc(a, b, func(a, b spot) bool { return a.at == b.at && slices.Equal(a.row, b.row) })
}

func TestEach(t *testing.T) {
	const a, b = "\x01\xff\x00", "\x01\x01\x01\x01\x02\x02\x03"
	less, more := row(num(-1), null()), row(num(1), text("\x02\x03"))
	for _, c := range []struct {
		b string
		l []spot
	}{
		{"", nil},
		{a, []spot{{0, less}}},
		{a + a, []spot{{0, less}, {3, less}}},
		{a + b + a, []spot{{0, less}, {3, more}, {10, less}}},
		{b + a + b, []spot{{0, more}, {7, less}, {10, more}}},
		{a + "\x00", []spot{{0, less}}},
		{a + "\x01", []spot{{0, less}}},
		{a + b[:6] + a, []spot{{0, less}, {3, row(num(1), text("\x02\x01"))}}}, // what comes in is the text's last byte
		{a + b[:6], []spot{{0, less}}},
		{a + "\x02" + a, []spot{{0, less}}},
		{a + "\x00\x00" + a, []spot{{0, less}}},
		{a + "\x01\x01\x01\x01\x03xyz" + a, []spot{{0, less}}},
		{"\x02" + a, nil},
		{"\x00" + a, nil},
		{a[1:], nil},
	} {
		if l := spots(codec.Each(small(), []byte(c.b)), 99); !same(l, c.l) {
			t.Errorf("%x: %v, not %v", c.b, l, c.l)
		}
	}
	if l := spots(codec.Each(small(), nil), 99); l != nil {
		t.Error("nil:", l)
	}
	for i, s := range wrong() {
		if l := spots(codec.Each(s, []byte(a+a)), 99); l != nil {
			t.Error(i, l)
		}
		if l := spots(codec.Each(s, nil), 99); l != nil {
			t.Error(i, l)
		}
	}
}

func TestEachOfManyRows(t *testing.T) {
	r := rand.New(rand.NewSource(2))
	for range 300 {
		s := someSchema(r)
		var b []byte
		var want []spot
		for range r.Intn(40) {
			l := someRow(r, s)
			want = append(want, spot{len(b), l})
			b = append(b, rowOf(s, l)...)
		}
		if l := spots(codec.Each(s, b), 99); !same(l, want) {
			t.Fatalf("%v, %x: %v, not %v", s, b, l, want)
		}
		b = append(b, 2) // begins no row
		if l := spots(codec.Each(s, b), 99); !same(l, want) {
			t.Fatalf("%v, %x: %v, not %v", s, b, l, want)
		}
	}
	const n = 200000
	i := 0
	for at, l := range codec.Each(small(), bytes.Repeat([]byte("\x01\xff\x00"), n)) {
		if at != 3*i || len(l) != 2 {
			t.Fatal(i, at, l)
		}
		i++
	}
	if i != n {
		t.Error(i)
	}
}

func TestEachIsLeftAndGoneOverAgain(t *testing.T) {
	all := codec.Each(small(), []byte("\x01\xff\x00\x01\x00\x01\x00\x01\x01\x00"))
	want := []spot{{0, row(num(-1), null())}, {3, row(num(0), text(""))}, {7, row(num(1), null())}}
	for most := 1; most <= 4; most++ {
		if l := spots(all, most); !same(l, want[:min(most, 3)]) {
			t.Error(most, l)
		}
	}
	var outer []spot
	for at, l := range all { // one within another
		outer = append(outer, spot{at, l})
		if inner := spots(all, len(outer)); !same(inner, want[:len(outer)]) {
			t.Error(at, inner)
		}
	}
	if !same(outer, want) {
		t.Error(outer)
	}
}

// What is handed in is not kept: its holder may write over it before, and while, the rows are gone over.
func TestEachKeepsNothing(t *testing.T) {
	s, b := small(), []byte("\x01\xff\x01\x01\x01x\x01\x01\x00")
	all := codec.Each(s, b)
	s.Columns[0], s.Columns[1] = api.Column{}, api.Column{}
	clear(b)
	want := []spot{{0, row(num(-1), text("x"))}, {6, row(num(1), null())}}
	for range 2 {
		var l []spot
		for at, r := range all {
			l = append(l, spot{at, slices.Clone(r)})
			clear(r[:cap(r)])
			copy(b, "\xff\xff\xff\xff\xff\xff\xff\xff\xff")
		}
		if !same(l, want) {
			t.Error(l)
		}
	}
	bad := api.Schema{Columns: many(2), Key: []int{2}}
	none := codec.Each(bad, []byte(strings.Repeat("\x01\x00\x00\x00\x00\x00\x00\x00\x00", 2)))
	bad.Key[0] = 1 // too late
	if l := spots(none, 99); l != nil {
		t.Error(l)
	}
}

// What who goes over the rows panics with is none of the package's, whatever it is.
func TestEachLetsPanicsGo(t *testing.T) {
	for _, what := range []any{"a text", api.ErrCode, 7} {
		func() {
			defer func() {
				if given := recover(); given != what {
					t.Error(what, given)
				}
			}()
			for range codec.Each(small(), []byte("\x01\xff\x00")) {
				panic(what)
			}
			t.Error(what, "is gone")
		}()
	}
}

// P4.4

func TestDecodeOfEncodeIsTheRow(t *testing.T) {
	r := rand.New(rand.NewSource(3))
	for range 5000 {
		s := someSchema(r)
		if e := schema.Check(s); e != api.OK {
			t.Fatal(s, e)
		}
		seen := map[string][]api.Value{}
		for range 6 {
			l := someRow(r, s)
			b, e := codec.Encode(s, l...)
			if string(b) != rowOf(s, l) || e != api.OK {
				t.Fatalf("%v, %v: %x, %v, not %x", s, l, b, e, rowOf(s, l))
			}
			if got, e := codec.Decode(s, b); !slices.Equal(got, l) || e != api.OK {
				t.Fatalf("%v, %x: %v, %v, not %v", s, b, got, e, l)
			}
			for other, o := range seen {
				if !slices.Equal(o, l) && (strings.HasPrefix(other, string(b)) || strings.HasPrefix(string(b), other)) {
					t.Fatalf("%v: %v, %v", s, l, o)
				}
			}
			seen[string(b)] = l
		}
	}
}

func TestDecodeSchemaOfEncodeSchemaIsTheSchema(t *testing.T) {
	r := rand.New(rand.NewSource(4))
	seen := map[string]api.Schema{}
	for range 5000 {
		s := someSchema(r)
		b, e := codec.EncodeSchema(s)
		if string(b) != schemaOf(s) || e != api.OK {
			t.Fatalf("%v: %x, %v, not %x", s, b, e, schemaOf(s))
		}
		if got, e := codec.DecodeSchema(b); !schema.Same(got, s) || e != api.OK {
			t.Fatalf("%x: %v, %v, not %v", b, got, e, s)
		}
		if o, is := seen[string(b)]; is && !schema.Same(o, s) {
			t.Fatal(o, s)
		}
		seen[string(b)] = s
	}
}

// rowHolds asks of any bytes: if they are a row's, it fits, and its bytes are these.
func rowHolds(t *testing.T, s api.Schema, b []byte) bool {
	t.Helper()
	l, e := codec.Decode(s, b)
	if e == api.ErrCode && l == nil {
		return false
	}
	if e != api.OK || schema.Row(s, l...) != api.OK {
		t.Fatalf("%v, %x: %v, %v", s, b, l, e)
	}
	if again, e := codec.Encode(s, l...); !bytes.Equal(again, b) || e != api.OK {
		t.Fatalf("%v, %x: %v, %x, %v", s, b, l, again, e)
	}
	return true
}

func schemaHolds(t *testing.T, b []byte) bool {
	t.Helper()
	s, e := codec.DecodeSchema(b)
	if e == api.ErrCode && reflect.DeepEqual(s, api.Schema{}) {
		return false
	}
	if e != api.OK || schema.Check(s) != api.OK {
		t.Fatalf("%x: %v, %v", b, s, e)
	}
	if again, e := codec.EncodeSchema(s); !bytes.Equal(again, b) || e != api.OK {
		t.Fatalf("%x: %v, %x, %v", b, s, again, e)
	}
	return true
}

// spoil changes some bytes, takes some, or lays some among them.
func spoil(r *rand.Rand, b []byte) []byte {
	b = slices.Clone(b)
	for range 1 + r.Intn(3) {
		at := r.Intn(len(b) + 1)
		x := []byte{0, 1, 2, 3, 4, 8, 9, 255, byte(r.Intn(256))}[r.Intn(9)]
		switch {
		case r.Intn(3) == 0:
			b = slices.Insert(b, at, x)
		case at == len(b):
		case r.Intn(2) == 0:
			b[at] = x
		default:
			b = slices.Delete(b, at, min(len(b), at+1+r.Intn(3)))
		}
	}
	return b
}

func TestEncodeOfDecodeIsTheBytes(t *testing.T) {
	r := rand.New(rand.NewSource(5))
	var rows, schemas [2]int
	count := func(l *[2]int, is bool) {
		if is {
			l[1]++
		} else {
			l[0]++
		}
	}
	for range 30000 {
		s := someSchema(r)
		b, _ := codec.Encode(s, someRow(r, s)...)
		count(&rows, rowHolds(t, s, spoil(r, b)))
		b, _ = codec.EncodeSchema(s)
		count(&schemas, schemaHolds(t, spoil(r, b)))
	}
	if min(rows[0], rows[1]) < 3000 || min(schemas[0], schemas[1]) < 400 {
		t.Error("too few of the one, or of the other:", rows, schemas)
	}
}

// All bytes of a few kinds, up to a length, are a row's just if they are among those of all rows.
func TestJustRowsBytesAreRows(t *testing.T) {
	s := api.Schema{Columns: []api.Column{column("a", api.TypeBool, 0), nullable(column("b", api.TypeBytes, 1))}, Key: []int{0}}
	all := map[string]bool{}
	for is := range int64(2) {
		all[rowOf(s, row(truth(is), null()))] = true
		all[rowOf(s, row(truth(is), text("")))] = true
		for c := range 256 {
			all[rowOf(s, row(truth(is), text(string([]byte{byte(c)}))))] = true
		}
	}
	found := 0
	var grow func(b []byte)
	grow = func(b []byte) {
		if is := rowHolds(t, s, b); is != all[string(b)] {
			t.Fatalf("%x: %t", b, is)
		} else if is {
			found++
		}
		if len(b) < 7 {
			for _, x := range []byte{0, 1, 2, 'x', 255} {
				grow(append(b[:len(b):len(b)], x))
			}
		}
	}
	grow(nil)
	if want := 2 + 2 + 2*5; found != want {
		t.Error(found, want)
	}
}

// Texts of all lengths that a column holds, of bytes that could be taken for what stands behind them.
func TestNoRowBeginsAnother(t *testing.T) {
	s := api.Schema{Columns: []api.Column{column("a", api.TypeBytes, 3)}, Key: []int{0}}
	var l []string
	for n := range 4 {
		for _, x := range []string{"\x00", "\x01", "x"} {
			b, _ := codec.Encode(s, text(strings.Repeat(x, n)))
			l = append(l, string(b))
		}
	}
	slices.Sort(l)
	l = slices.Compact(l)
	for i, a := range l {
		for j, b := range l {
			if i != j && strings.HasPrefix(a, b) {
				t.Errorf("%x begins %x", b, a)
			}
		}
	}
	if len(l) != 10 {
		t.Error(len(l))
	}
}

// Rules that hold everywhere.

func TestNothingHandedInIsChanged(t *testing.T) {
	room := func() api.Schema {
		s := plain()
		s.Columns = append(s.Columns, many(20)...)[:5]
		s.Key = append(s.Key, 90, 91, 92)[:2]
		s.Uniques = append(s.Uniques, []int{93})[:2]
		s.Uniques[0] = append(s.Uniques[0], 94, 95)[:1]
		return s
	}
	whole := func(s api.Schema) api.Schema {
		s.Columns, s.Key, s.Uniques = s.Columns[:cap(s.Columns)], s.Key[:cap(s.Key)], slices.Clone(s.Uniques[:cap(s.Uniques)])
		for i, set := range s.Uniques {
			s.Uniques[i] = set[:cap(set)]
		}
		return s
	}
	s, was := room(), room()
	values := func() []api.Value { return row(num(1), null(), uns(1), truth(1), null(), none(), none()) }
	l := values()[:5]
	b := []byte(rowOf(s, l) + rowOf(s, l) + "\xff\xff\xff")
	saved := slices.Clone(b)
	codec.Encode(s, l...)
	codec.Width(s)
	codec.EncodeSchema(s)
	for cut := range len(b) + 1 {
		codec.Decode(s, b[:cut])
		spots(codec.Each(s, b[:cut]), 99)
	}
	if !reflect.DeepEqual(whole(s), whole(was)) || !slices.Equal(l[:7], values()) || !bytes.Equal(b, saved) {
		t.Error(whole(s), l[:7], b)
	}
	b = append([]byte(schemaOf(s)), "\x00\x00\x00"...)
	saved = slices.Clone(b)
	for cut := range len(b) + 1 {
		codec.DecodeSchema(b[:cut])
	}
	if !bytes.Equal(b, saved) {
		t.Error(b)
	}
}

func TestAnswersAreNewMemory(t *testing.T) {
	s, l := small(), row(num(1), text("\x02\x03"))
	a, _ := codec.Encode(s, l...)
	b, _ := codec.Encode(s, l...)
	clear(a[:cap(a)])
	if string(b) != rows[1].b {
		t.Errorf("%x", b)
	}
	x, _ := codec.Decode(s, b)
	y, _ := codec.Decode(s, b)
	clear(x[:cap(x)])
	clear(b[:cap(b)])
	if !slices.Equal(y, l) {
		t.Error(y)
	}
	c, _ := codec.EncodeSchema(plain())
	d, _ := codec.EncodeSchema(plain())
	clear(c[:cap(c)])
	if string(d) != schemaOf(plain()) {
		t.Errorf("%x", d)
	}
	o, _ := codec.DecodeSchema(d)
	p, _ := codec.DecodeSchema(d)
	clear(d[:cap(d)])
	for i, set := range append([][]int{o.Key}, o.Uniques...) { // each list on its own: what is written into one is in no other
		set = set[:cap(set)]
		for at := range set {
			set[at] = 70 + i
		}
	}
	clear(o.Columns[:cap(o.Columns)])
	if !schema.Same(p, plain()) || o.Key[0] != 70 || o.Key[1] != 70 || o.Uniques[0][0] != 71 || o.Uniques[1][2] != 72 {
		t.Error(o, p)
	}
}

// Texts that were read are not the memory of the bytes that they were read from.
func TestTextsAreTheirOwn(t *testing.T) {
	b := []byte("\x01\x01\x01\x01\x02ab")
	l, _ := codec.Decode(small(), b)
	each := spots(codec.Each(small(), b), 99)
	copy(b[5:], "zz")
	if l[1] != text("ab") || each[0].row[1] != text("ab") {
		t.Error(l, each)
	}
	b = []byte(schemaOf(small()))
	s, _ := codec.DecodeSchema(b)
	clear(b)
	if s.Columns[0].Name != "a" || s.Columns[1].Name != "b" {
		t.Error(s)
	}
}

func FuzzAnyRow(f *testing.F) {
	for i, c := range rows {
		f.Add(int64(i), []byte(c.b))
	}
	f.Fuzz(func(t *testing.T, seed int64, b []byte) {
		for _, s := range []api.Schema{small(), plain(), someSchema(rand.New(rand.NewSource(seed)))} {
			rowHolds(t, s, b)
			end := 0
			for at, l := range codec.Each(s, b) {
				again, e := codec.Encode(s, l...)
				if at != end || e != api.OK || !bytes.HasPrefix(b[at:], again) {
					t.Fatal(s, at, end, l, e)
				}
				end += len(again)
			}
			if _, e := codec.Decode(s, b[end:]); e != api.ErrCode {
				t.Fatal(s, end, e)
			}
		}
	})
}

func FuzzAnySchema(f *testing.F) {
	for _, c := range schemas {
		f.Add([]byte(c.b))
	}
	f.Fuzz(func(t *testing.T, b []byte) { schemaHolds(t, b) })
}
