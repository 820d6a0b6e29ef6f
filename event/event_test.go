package event_test

import (
	"bytes"
	"encoding/binary"
	"fmt"
	"iter"
	"math"
	"math/rand"
	"reflect"
	"slices"
	"strings"
	"testing"

	"swingbridge/api"
	"swingbridge/codec"
	"swingbridge/event"
	"swingbridge/key"
	"swingbridge/value"
)

// row tells the values of a row's text (layer 1).
func row(s string) []api.Value {
	var l []api.Value
	for _, v := range value.Each(s) {
		l = append(l, v)
	}
	if again, e := value.Row(l...); again != s || e != api.OK {
		panic(s)
	}
	return l
}

func came(table, is string) api.Event {
	return api.Event{Kind: api.EventInsert, Table: table, New: row(is)}
}

func turned(table, was, is string) api.Event {
	return api.Event{Kind: api.EventUpdate, Table: table, Old: row(was), New: row(is)}
}

func went(table, was string) api.Event {
	return api.Event{Kind: api.EventDelete, Table: table, Old: row(was)}
}

func made(table string, s api.Schema) api.Event {
	return api.Event{Kind: api.EventCreate, Table: table, Schema: s}
}

func dropped(table string) api.Event { return api.Event{Kind: api.EventDrop, Table: table} }

func renamed(pairs ...[2]string) api.Event {
	return api.Event{Kind: api.EventRename, Names: pairs}
}

// goods is a schema that may be.
func goods() api.Schema {
	return api.Schema{
		Columns: []api.Column{{Name: "a", Type: api.TypeInt, Size: 1}, {Name: "b", Type: api.TypeBytes, Size: 2, Null: true}},
		Key:     []int{0},
		Uniques: [][]int{{1, 0}},
	}
}

// goodsBytes are those of goods.
const goodsBytes = "\x01\x02" + "\x01\x01a\x01\x01\x01\x01\x00" + "\x01\x01b\x01\x04\x01\x02\x01\x01" + "\x01\x01\x00" + "\x01\x01" + "\x01\x02\x01\x01\x00"

var longest = strings.Repeat("n", 24)

// full is the text of a row of eight values, each of which has the longest key.
func full() string {
	return strings.Repeat("x'"+strings.Repeat("00", 200)+"', ", 7) + "x'" + strings.Repeat("ff", 200) + "'"
}

// fullKey is the key of that row.
func fullKey() string {
	one := func(x string) string {
		return "\x04" + strings.Repeat(strings.Repeat(x, 8)+"\x09", 24) + strings.Repeat(x, 8) + "\x08"
	}
	return strings.Repeat(one("\x00"), 7) + one("\xff")
}

// right are events of all Kinds, and their bytes.
func right() []struct {
	x api.Event
	b string
} {
	wide := "\x02\x07\x10" + fullKey() // 8 keys of 1 + 25 * 9 bytes
	return []struct {
		x api.Event
		b string
	}{
		{dropped("t"), "\x01\x05\x01\x01t"},
		{dropped("t_1"), "\x01\x05\x01\x03t_1"},
		{dropped(longest), "\x01\x05\x01\x18" + longest},
		{went("t", "true"), "\x01\x03\x01\x01t\x01\x02\x03\x01"},
		{went("t", "null"), "\x01\x03\x01\x01t\x01\x01\x00"},
		{went("t", "null, 258u, false"), "\x01\x03\x01\x01t\x01\x07\x00\x02\x02\x01\x02\x03\x00"},
		{went("t", "null, null, null, null, null, null, null, null"), "\x01\x03\x01\x01t\x01\x08\x00\x00\x00\x00\x00\x00\x00\x00"},
		{went(longest, full()), "\x01\x03\x01\x18" + longest + wide},
		{came("t", "-1"), "\x01\x01\x01\x01t\x01\x09\x01\x7f\xff\xff\xff\xff\xff\xff\xff"},
		{came("t", "x'6162', null"), "\x01\x01\x01\x01t\x01\x0b\x04\x61\x62\x00\x00\x00\x00\x00\x00\x02\x00"},
		{came("t", full()), "\x01\x01\x01\x01t" + wide},
		{turned("t", "true", "false"), "\x01\x02\x01\x01t\x01\x02\x03\x01\x01\x02\x03\x00"},
		{turned("t", "true", "true"), "\x01\x02\x01\x01t\x01\x02\x03\x01\x01\x02\x03\x01"},
		{turned("t", "null, 0u", "0u, null"), "\x01\x02\x01\x01t\x01\x03\x00\x02\x00\x01\x03\x02\x00\x00"},
		{turned(longest, full(), full()), "\x01\x02\x01\x18" + longest + wide + wide},
		{made("t", goods()), "\x01\x04\x01\x01t\x01\x1d" + goodsBytes},
		{renamed([2]string{"t", "u"}), "\x01\x06\x01\x01\x01\x01t\x01\x01u"},
		{renamed([2]string{"t", "t"}), "\x01\x06\x01\x01\x01\x01t\x01\x01t"},
		{renamed([2]string{"t", "u"}, [2]string{"t", "u"}, [2]string{longest, "u"}, [2]string{"u", longest}),
			"\x01\x06\x01\x04\x01\x01t\x01\x01u\x01\x01t\x01\x01u\x01\x18" + longest + "\x01\x01u\x01\x01u\x01\x18" + longest},
	}
}

// wrongNames are no names of tables.
var wrongNames = []string{"", "T", "tT", "1t", "_t", "t-", "t ", "\x00", "t\x00", "\xff\xfe", "é", longest + "n", strings.Repeat("n", 100000)}

// wrongValues may not be; the last ones are too long.
var wrongValues = []api.Value{
	{Kind: 5}, {Kind: -1}, {Kind: math.MaxInt}, {Int: 1}, {Bytes: "x"},
	{Kind: api.ValueInt, Uint: 1}, {Kind: api.ValueUint, Int: 1}, {Kind: api.ValueInt, Bytes: "x"},
	{Kind: api.ValueBool, Int: 2}, {Kind: api.ValueBool, Int: -1}, {Kind: api.ValueBytes, Int: 1},
	{Kind: api.ValueBytes, Bytes: strings.Repeat("x", 201)}, {Kind: api.ValueBytes, Bytes: strings.Repeat("x", 100000)},
}

// wrongRows are no rows.
func wrongRows() [][]api.Value {
	l := [][]api.Value{nil, {}, make([]api.Value, 9), make([]api.Value, 100000)}
	for _, v := range wrongValues {
		l = append(l, []api.Value{v}, append(make([]api.Value, 7), v), append([]api.Value{v}, row("1, 2")...))
	}
	return l
}

func wrongSchemas() []api.Schema {
	with := func(change func(*api.Schema)) api.Schema {
		s := goods()
		change(&s)
		return s
	}
	return []api.Schema{
		{},
		{Columns: goods().Columns},
		{Key: []int{0}},
		{Columns: slices.Repeat(goods().Columns[:1], 2), Key: []int{0}},
		{Columns: slices.Repeat(goods().Columns, 100000), Key: []int{0}},
		with(func(s *api.Schema) { s.Columns[1].Name = "B" }),
		with(func(s *api.Schema) { s.Columns[1].Type = 5 }),
		with(func(s *api.Schema) { s.Columns[1].Size = 201 }),
		with(func(s *api.Schema) { s.Key = []int{1} }),
		with(func(s *api.Schema) { s.Key = []int{2} }),
		with(func(s *api.Schema) { s.Uniques = [][]int{{0}, nil} }),
		with(func(s *api.Schema) { s.Uniques = [][]int{{0}, {0}, {0}, {0}} }),
	}
}

// filled are an event with one thing more each, which its Kind does not name.
func filled(x api.Event) []api.Event {
	with := func(change func(*api.Event)) api.Event {
		y := x
		change(&y)
		return y
	}
	var l []api.Event
	if x.Table == "" {
		l = append(l, with(func(y *api.Event) { y.Table = "t" }), with(func(y *api.Event) { y.Table = "T" }))
	}
	if len(x.Schema.Columns) == 0 {
		l = append(l,
			with(func(y *api.Event) { y.Schema = goods() }),
			with(func(y *api.Event) { y.Schema.Columns = goods().Columns }),
			with(func(y *api.Event) { y.Schema.Columns = make([]api.Column, 1) }),
			with(func(y *api.Event) { y.Schema.Key = []int{0} }),
			with(func(y *api.Event) { y.Schema.Uniques = [][]int{{0}} }),
			with(func(y *api.Event) { y.Schema.Uniques = [][]int{nil} }))
	}
	if len(x.Old) == 0 {
		l = append(l, with(func(y *api.Event) { y.Old = row("null") }), with(func(y *api.Event) { y.Old = slices.Clone(x.New) }))
	}
	if len(x.New) == 0 {
		l = append(l, with(func(y *api.Event) { y.New = row("null") }), with(func(y *api.Event) { y.New = slices.Clone(x.Old) }))
	}
	if len(x.Names) == 0 {
		l = append(l, with(func(y *api.Event) { y.Names = [][2]string{{"t", "u"}} }), with(func(y *api.Event) { y.Names = make([][2]string, 1) }))
	}
	return slices.DeleteFunc(l, func(y api.Event) bool { return event.Same(x, y) })
}

// wrong are events that may not be: of no Kind, of another one than what they name, with something wrong in what they name.
func wrong() []api.Event {
	l := []api.Event{{}, {Table: "t"}, {Kind: 7, Table: "t"}, {Kind: -1, Table: "t"}, {Kind: math.MaxInt, Table: "t"}, {Kind: math.MinInt, Names: [][2]string{{"t", "u"}}}}
	for _, c := range right() {
		l = append(l, filled(c.x)...)
		for k := range api.EventKind(8) {
			if k != c.x.Kind {
				y := c.x
				y.Kind = k
				l = append(l, y)
			}
		}
	}
	l = append(l,
		turned("t", "1, 2", "1"), turned("t", "1", "1, 2"),
		api.Event{Kind: api.EventUpdate, Table: "t", New: row("1")}, api.Event{Kind: api.EventUpdate, Table: "t", Old: row("1")},
		renamed(), renamed(slices.Repeat([][2]string{{"t", "u"}}, 5)...), renamed(slices.Repeat([][2]string{{"t", "u"}}, 100000)...))
	for _, s := range wrongNames {
		l = append(l, came(s, "1"), turned(s, "1", "2"), went(s, "1"), made(s, goods()), dropped(s),
			renamed([2]string{s, "t"}), renamed([2]string{"t", s}), renamed([2]string{"t", "u"}, [2]string{"t", s}))
	}
	for _, r := range wrongRows() {
		l = append(l, api.Event{Kind: api.EventInsert, Table: "t", New: r}, api.Event{Kind: api.EventDelete, Table: "t", Old: r},
			api.Event{Kind: api.EventUpdate, Table: "t", Old: r, New: r},
			api.Event{Kind: api.EventUpdate, Table: "t", Old: make([]api.Value, len(r)), New: r},
			api.Event{Kind: api.EventUpdate, Table: "t", Old: r, New: make([]api.Value, len(r))})
	}
	for _, s := range wrongSchemas() {
		l = append(l, made("t", s))
	}
	return l
}

func numberOf(n int) string {
	b := bytes.TrimLeft(binary.BigEndian.AppendUint64(nil, uint64(n)), "\x00")
	return string(rune(len(b))) + string(b)
}

func textOf(s string) string { return numberOf(len(s)) + s }

// bytesOf says over again what the chapter says of the bytes of events that may be.
func bytesOf(x api.Event) string {
	table := numberOf(int(x.Kind)) + textOf(x.Table)
	was, _ := key.Encode(x.Old...)
	is, _ := key.Encode(x.New...)
	switch x.Kind {
	case api.EventInsert:
		return table + textOf(is)
	case api.EventUpdate:
		return table + textOf(was) + textOf(is)
	case api.EventDelete:
		return table + textOf(was)
	case api.EventCreate:
		s, _ := codec.EncodeSchema(x.Schema)
		return table + textOf(string(s))
	case api.EventDrop:
		return table
	}
	b := numberOf(int(x.Kind)) + numberOf(len(x.Names))
	for _, names := range x.Names {
		b += textOf(names[0]) + textOf(names[1])
	}
	return b
}

// listOf says it of several events, of which the bytes are given.
func listOf(l ...string) string {
	b := numberOf(len(l))
	for _, s := range l {
		b += textOf(s)
	}
	return b
}

func isNothing(x api.Event) bool { return reflect.DeepEqual(x, api.Event{}) }

// P8.1

func TestCheck(t *testing.T) {
	for _, c := range right() {
		if e := event.Check(c.x); e != api.OK {
			t.Error(c.b, e)
		}
	}
	for i, x := range wrong() {
		if e := event.Check(x); e != api.ErrArg {
			t.Errorf("%d: %v, %.99v", i, e, x)
		}
	}
}

// Empty lists are as none, inside a schema, too.
func TestCheckTakesEmptyListsForNone(t *testing.T) {
	for _, c := range right() {
		x := c.x
		if x.Schema.Columns == nil {
			x.Schema = api.Schema{Columns: []api.Column{}, Key: []int{}, Uniques: [][]int{}}
		}
		x.Old, x.New, x.Names = append([]api.Value{}, x.Old...), append([]api.Value{}, x.New...), append([][2]string{}, x.Names...)
		b, e := event.Encode(x)
		if event.Check(x) != api.OK || string(b) != c.b || e != api.OK || !event.Same(x, c.x) {
			t.Errorf("%x: %x, %v", c.b, b, e)
		}
	}
}

func TestEncode(t *testing.T) {
	for _, c := range right() {
		if b, e := event.Encode(c.x); string(b) != c.b || e != api.OK {
			t.Errorf("%x, %v, not %x", b, e, c.b)
		}
	}
	for i, x := range wrong() {
		if b, e := event.Encode(x); b != nil || e != api.ErrArg {
			t.Errorf("%d: %x, %v, %.99v", i, b, e, x)
		}
	}
}

func TestDecode(t *testing.T) {
	for _, c := range right() {
		if x, e := event.Decode([]byte(c.b)); !event.Same(x, c.x) || e != api.OK {
			t.Errorf("%x: %v, %v", c.b, x, e)
		}
		for cut := range len(c.b) {
			if x, e := event.Decode([]byte(c.b)[:cut]); !isNothing(x) || e != api.ErrEvent {
				t.Errorf("%x, %d: %v, %v", c.b, cut, x, e)
			}
		}
		for _, behind := range []string{"\x00", "\x01", "\xff", c.b} {
			if x, e := event.Decode([]byte(c.b + behind)); !isNothing(x) || e != api.ErrEvent {
				t.Errorf("%x %x: %v, %v", c.b, behind, x, e)
			}
		}
	}
}

// What is refused is near what is not: see right.
func TestDecodeRefuses(t *testing.T) {
	const huge = "\x08\xff\xff\xff\xff\xff\xff\xff\xff"
	const half = "\x08\x7f\xff\xff\xff\xff\xff\xff\xff"
	l := []string{
		"",
		"\x00",
		"\x00\x01\x01t", // no Kind
		"\x01\x07",
		"\x01\x07\x01\x01t",
		"\x01\xff\x01\x01t",
		huge + "\x01\x01t",
		half + "\x01\x01t",
		"\x05\x01\x00\x00\x00\x05\x01\x01t", // 5, if only 32 bits of it are taken
		"\x02\x00\x05\x01\x01t",             // a number with more than it needs
		"\x09\x05\x01\x01t",
		// names
		"\x01\x05\x00",
		"\x01\x05\x01\x01T",
		"\x01\x05\x01\x011",
		"\x01\x05\x01\x02\xff\xfe",
		"\x01\x05\x01\x19" + longest + "n",
		"\x01\x05\x02\x00\x01t",
		"\x01\x05\x03\x01\x00\x00" + strings.Repeat("t", 65536),
		"\x01\x05" + huge + "t",
		"\x01\x05" + half + "t",
		"\x01\x05\x08\x80\x00\x00\x00\x00\x00\x00\x00t",
		// what the Kind does not name
		"\x01\x05\x01\x01t\x00",
		"\x01\x05\x01\x01t\x01\x02\x03\x01",
		"\x01\x03\x01\x01t\x01\x02\x03\x01\x00",
		"\x01\x03\x01\x01t\x01\x02\x03\x01\x01\x02\x03\x01",
		"\x01\x06\x01\x01t\x01\x01\x01\x01t\x01\x01u",
		// rows
		"\x01\x03\x01\x01t\x00",
		"\x01\x03\x01\x01t\x01\x09\x00\x00\x00\x00\x00\x00\x00\x00\x00",
		"\x01\x03\x01\x01t\x01\x02\x03\x02",
		"\x01\x03\x01\x01t\x01\x01\x03",
		"\x01\x03\x01\x01t\x01\x03\x03\x01",
		"\x01\x03\x01\x01t\x01\x01\x05",
		"\x01\x03\x01\x01t\x01\x04\x02\x02\x00\x01",
		"\x01\x03\x01\x01t\x01\x0a\x04x\x00\x00\x00\x00\x00\x00\x01\x01",
		"\x01\x03\x01\x01t" + textOf("\x04"+strings.Repeat("xxxxxxxx\x09", 25)+"x\x00\x00\x00\x00\x00\x00\x00\x01"), // 201 bytes
		"\x01\x03\x01\x01t" + textOf(strings.Repeat("\x00", 2001)),
		"\x01\x03\x01\x01t" + textOf(fullKey()+"\x00"),
		"\x01\x03\x01\x01t\x02\x00\x02\x03\x01",
		"\x01\x03\x01\x01t" + huge + "\x03\x01",
		"\x01\x03\x01\x01t" + half + "\x03\x01",
		// rows of an update
		"\x01\x02\x01\x01t\x01\x02\x03\x01",
		"\x01\x02\x01\x01t\x01\x02\x03\x01\x00",
		"\x01\x02\x01\x01t\x00\x01\x02\x03\x01",
		"\x01\x02\x01\x01t\x00\x00",
		"\x01\x02\x01\x01t\x01\x02\x03\x01\x01\x03\x00\x03\x01", // of more values
		"\x01\x02\x01\x01t\x01\x02\x00\x00\x01\x01\x00",         // of fewer
		// schemas
		"\x01\x04\x01\x01t\x00",
		"\x01\x04\x01\x01t" + textOf(goodsBytes[:len(goodsBytes)-1]),
		"\x01\x04\x01\x01t" + textOf(goodsBytes+"\x00"),
		"\x01\x04\x01\x01t" + goodsBytes,
		"\x01\x04\x01\x01t" + textOf(strings.Replace(goodsBytes, "b", "a", 1)),
		"\x01\x04\x01\x01t" + huge + goodsBytes,
		// pairs of names
		"\x01\x06",
		"\x01\x06\x00",
		"\x01\x06\x01\x01",
		"\x01\x06\x01\x01\x01\x01t",
		"\x01\x06\x01\x01\x01\x01t\x00",
		"\x01\x06\x01\x01\x00\x01\x01u",
		"\x01\x06\x01\x01\x01\x01t\x01\x01U",
		"\x01\x06\x01\x01\x01\x01T\x01\x01u",
		"\x01\x06\x01\x01\x01\x19" + longest + "n\x01\x01u",
		"\x01\x06\x01\x02\x01\x01t\x01\x01u",
		"\x01\x06\x01\x02\x01\x01t\x01\x01u\x01\x01t",
		"\x01\x06\x01\x01\x01\x01t\x01\x01u\x01\x01t\x01\x01u",
		"\x01\x06\x00\x01\x01t\x01\x01u",
		"\x01\x06\x01\x05" + strings.Repeat("\x01\x01t\x01\x01u", 5),
		"\x01\x06" + huge + "\x01\x01t\x01\x01u",
		"\x01\x06" + half + "\x01\x01t\x01\x01u",
		"\x01\x06\x05\x01\x00\x00\x00\x01\x01\x01t\x01\x01u",
		"\x01\x06\x02\x00\x01\x01\x01t\x01\x01u",
	}
	for _, b := range l {
		if x, e := event.Decode([]byte(b)); !isNothing(x) || e != api.ErrEvent {
			t.Errorf("%.99x: %v, %v", b, x, e)
		}
	}
	if x, e := event.Decode(nil); !isNothing(x) || e != api.ErrEvent {
		t.Error("nil:", x, e)
	}
}

// The bytes end where they end, not where the room behind them does.
func TestReadsNothingOfTheRoomBehind(t *testing.T) {
	room := []byte("\x01\x05\x01\x02tu")
	if x, e := event.Decode(room[:5]); !isNothing(x) || e != api.ErrEvent {
		t.Error(x, e)
	}
	room = []byte(listOf("\x01\x05\x01\x01t"))
	if l, e := event.Unpack(room[:len(room)-1]); l != nil || e != api.ErrEvent {
		t.Error(l, e)
	}
	for n, x := range event.Each(room[:len(room)-1]) {
		t.Error(n, x)
	}
}

func TestSame(t *testing.T) {
	l := []api.Event{
		{}, {Kind: 1}, {Kind: -1}, {Kind: 7}, {Table: "t"}, {Table: "T"}, {Table: "\xff"},
		{Schema: goods()}, {Schema: api.Schema{Columns: goods().Columns}}, {Schema: api.Schema{Key: []int{0}}}, {Schema: api.Schema{Key: []int{1}}},
		{Schema: api.Schema{Uniques: [][]int{{0}}}}, {Schema: api.Schema{Uniques: [][]int{nil}}}, {Schema: api.Schema{Uniques: [][]int{nil, nil}}},
		{Schema: api.Schema{Columns: []api.Column{{}}}}, {Schema: api.Schema{Columns: []api.Column{{Null: true}}}},
		{Old: row("1")}, {Old: row("2")}, {Old: row("1u")}, {Old: row("1, 1")}, {Old: row("null")}, {Old: []api.Value{{Int: 1}}}, {Old: []api.Value{{Kind: 9, Bytes: "x"}}},
		{New: row("1")}, {New: row("2")}, {New: row("1, 2")}, {New: row("2, 1")}, {Old: row("1"), New: row("1")}, {Old: row("1"), New: row("2")}, {Old: row("2"), New: row("1")},
		{Names: make([][2]string, 1)}, {Names: make([][2]string, 2)}, {Names: [][2]string{{"t", ""}}}, {Names: [][2]string{{"", "t"}}},
		{Names: [][2]string{{"t", "u"}}}, {Names: [][2]string{{"u", "t"}}}, {Names: [][2]string{{"t", "u"}, {"v", "w"}}}, {Names: [][2]string{{"v", "w"}, {"t", "u"}}},
	}
	for i, a := range l {
		for j, b := range l {
			if event.Same(a, b) != (i == j) {
				t.Error(a, b)
			}
		}
	}
	empty := api.Event{Schema: api.Schema{Columns: []api.Column{}, Key: []int{}, Uniques: [][]int{}}, Old: []api.Value{}, New: []api.Value{}, Names: [][2]string{}}
	if !event.Same(empty, api.Event{}) || !event.Same(api.Event{}, empty) {
		t.Error("empty lists, and none")
	}
	inner := api.Event{Schema: api.Schema{Uniques: [][]int{{}}}}
	if !event.Same(inner, api.Event{Schema: api.Schema{Uniques: [][]int{nil}}}) || event.Same(inner, api.Event{}) {
		t.Error("an empty list within, and none")
	}
}

// P8.2

// three are events, and their bytes as a list.
func three() ([]api.Event, string) {
	l := []api.Event{dropped("t"), turned("t", "true", "null"), made("u", goods())}
	return l, "\x01\x03" + "\x01\x05" + bytesOf(l[0]) + "\x01\x0c" + bytesOf(l[1]) + "\x01\x24" + bytesOf(l[2])
}

func sameList(a, b []api.Event) bool { return slices.EqualFunc(a, b, event.Same) }

func TestPack(t *testing.T) {
	l, b := three()
	if p, e := event.Pack(l...); string(p) != b || e != api.OK {
		t.Errorf("%x, %v, not %x", p, e, b)
	}
	for _, none := range [][]api.Event{nil, {}} {
		if p, e := event.Pack(none...); string(p) != "\x00" || e != api.OK {
			t.Errorf("%x, %v", p, e)
		}
	}
	for _, n := range []int{1, 2, 99, 100} {
		p, e := event.Pack(slices.Repeat(l[:1], n)...)
		if string(p) != string([]byte{1, byte(n)})+strings.Repeat("\x01\x05\x01\x05\x01\x01t", n) || e != api.OK {
			t.Errorf("%d: %x, %v", n, p, e)
		}
	}
	widest := turned(longest, full(), full())
	if p, e := event.Pack(slices.Repeat([]api.Event{widest}, 100)...); string(p) != listOf(slices.Repeat([]string{bytesOf(widest)}, 100)...) || e != api.OK {
		t.Error(len(p), e)
	}
}

func TestPackRefuses(t *testing.T) {
	good := dropped("t")
	for i, x := range wrong() {
		for _, l := range [][]api.Event{{x}, {good, x}, {x, good}, append(slices.Repeat([]api.Event{good}, 99), x)} {
			if b, e := event.Pack(l...); b != nil || e != api.ErrArg {
				t.Errorf("%d: %x, %v", i, b, e)
			}
		}
	}
	for _, n := range []int{101, 102, 100000} {
		for _, x := range []api.Event{good, {}} { // ErrArg is behind ErrLong
			if b, e := event.Pack(slices.Repeat([]api.Event{x}, n)...); b != nil || e != api.ErrLong {
				t.Errorf("%d: %x, %v", n, b, e)
			}
		}
	}
	if b, e := event.Pack(make([]api.Event, 100)...); b != nil || e != api.ErrArg {
		t.Errorf("%x, %v", b, e)
	}
}

// numbered goes over events, at most so many, and asks that their numbers are 0, 1 and so on.
func numbered(t *testing.T, all iter.Seq2[int, api.Event], most int) []api.Event {
	t.Helper()
	var l []api.Event
	for n, x := range all {
		if n != len(l) {
			t.Error(n, len(l))
		}
		if l = append(l, x); len(l) == most {
			break
		}
	}
	return l
}

// listHolds asks of any bytes: if they are several events', these are what is gone over, and their bytes are these; else none are.
func listHolds(t *testing.T, b []byte) bool {
	t.Helper()
	l, e := event.Unpack(b)
	over := numbered(t, event.Each(b), math.MaxInt)
	if e == api.ErrEvent && l == nil && over == nil {
		return false
	}
	if again, f := event.Pack(l...); e != api.OK || f != api.OK || !bytes.Equal(again, b) || !sameList(l, over) {
		t.Fatalf("%x: %v, %v, %x, %v, %v", b, l, e, again, f, over)
	}
	return true
}

func TestUnpackAndEach(t *testing.T) {
	l, b := three()
	for _, c := range []struct {
		b string
		l []api.Event
	}{
		{"\x00", nil},
		{listOf("\x01\x05\x01\x01t"), l[:1]},
		{listOf("\x01\x05\x01\x01t", "\x01\x05\x01\x01t"), []api.Event{l[0], l[0]}},
		{b, l},
		{"\x01\x64" + strings.Repeat("\x01\x05\x01\x05\x01\x01t", 100), slices.Repeat(l[:1], 100)},
	} {
		if got, e := event.Unpack([]byte(c.b)); !sameList(got, c.l) || e != api.OK {
			t.Errorf("%x: %v, %v", c.b, got, e)
		}
		if got := numbered(t, event.Each([]byte(c.b)), math.MaxInt); !sameList(got, c.l) {
			t.Errorf("%x: %v", c.b, got)
		}
		for cut := range len(c.b) {
			if listHolds(t, []byte(c.b)[:cut]) {
				t.Errorf("%x, %d", c.b, cut)
			}
		}
		for _, behind := range []string{"\x00", "\x01", "\xff", "\x01\x05\x01\x05\x01\x01t", c.b} {
			if listHolds(t, []byte(c.b+behind)) {
				t.Errorf("%x %x", c.b, behind)
			}
		}
	}
}

func TestWhatIsNoListOfEvents(t *testing.T) {
	const one = "\x01\x05\x01\x05\x01\x01t" // an event's bytes as a text
	for _, b := range []string{
		"",
		one,
		"\x01\x05\x01\x01t",
		"\x00\x00",
		"\x01\x01",
		"\x01\x02" + one,
		"\x01\x01" + one + one,
		"\x01\x00" + one,
		"\x01\x01\x00", // an empty text is no event's bytes
		"\x01\x02" + one + "\x00",
		"\x01\x01" + "\x01\x04\x01\x05\x01\x01t",
		"\x01\x01" + "\x01\x06\x01\x05\x01\x01t\x00",
		"\x01\x02" + "\x01\x06\x01\x05\x01\x01t" + one, // what ends one begins the next one
		"\x01\x01" + "\x01\x05\x01\x05\x01\x01T",
		"\x01\x03" + one + "\x01\x05\x01\x05\x01\x01T" + one,
		"\x01\x64" + strings.Repeat(one, 99) + "\x01\x05\x01\x05\x01\x01T",
		"\x01\x64" + strings.Repeat(one, 99),
		"\x01\x65" + strings.Repeat(one, 101),
		"\x02\x01\x01" + strings.Repeat(one, 257),
		"\x02\x00\x01" + one,
		"\x05\x01\x00\x00\x00\x01" + one,
		"\x08\xff\xff\xff\xff\xff\xff\xff\xff" + one,
		"\x08\x7f\xff\xff\xff\xff\xff\xff\xff" + one,
		"\x01\x01" + "\x02\x00\x05\x01\x05\x01\x01t",
		"\x01\x01" + "\x08\xff\xff\xff\xff\xff\xff\xff\xff\x01\x05\x01\x01t",
		"\x01\x01" + "\x08\x7f\xff\xff\xff\xff\xff\xff\xff\x01\x05\x01\x01t",
		"\xff",
	} {
		if l, e := event.Unpack([]byte(b)); l != nil || e != api.ErrEvent {
			t.Errorf("%.99x: %v, %v", b, l, e)
		}
		if l := numbered(t, event.Each([]byte(b)), math.MaxInt); l != nil {
			t.Errorf("%.99x: %v", b, l)
		}
	}
	if l, e := event.Unpack(nil); l != nil || e != api.ErrEvent {
		t.Error("nil:", l, e)
	}
	if l := numbered(t, event.Each(nil), math.MaxInt); l != nil {
		t.Error("nil:", l)
	}
}

func TestEachIsLeftAndGoneOverAgain(t *testing.T) {
	want, b := three()
	all := event.Each([]byte(b))
	for most := 1; most <= 4; most++ {
		if l := numbered(t, all, most); !sameList(l, want[:min(most, 3)]) {
			t.Error(most, l)
		}
	}
	var outer []api.Event
	for n, x := range all { // one within another
		outer = append(outer, x)
		if inner := numbered(t, all, n+1); !sameList(inner, want[:n+1]) {
			t.Error(n, inner)
		}
	}
	if !sameList(outer, want) {
		t.Error(outer)
	}
}

// What is handed in is not kept: its holder may write over it before, and while, the events are gone over; and so may who is told an event.
func TestEachKeepsNothing(t *testing.T) {
	want, s := three()
	b := []byte(s)
	all := event.Each(b)
	clear(b)
	for range 3 {
		n := 0
		for at, x := range all {
			if !event.Same(x, want[n]) || at != n {
				t.Error(at, x)
			}
			n++
			spill(x)
			copy(b, "\xff\xff\xff\xff")
		}
		if n != 3 {
			t.Error(n)
		}
	}
	late := []byte("\x01\x01\x01\x05\x01\x05\x01\x01T")
	none := event.Each(late)
	late[8] = 't' // too late
	if l := numbered(t, none, math.MaxInt); l != nil {
		t.Error(l)
	}
}

// spill writes over all lists of an event, their spare room included.
func spill(x api.Event) {
	clear(x.Old[:cap(x.Old)])
	clear(x.New[:cap(x.New)])
	clear(x.Names[:cap(x.Names)])
	clear(x.Schema.Columns[:cap(x.Schema.Columns)])
	for i, places := range append(slices.Clip(x.Schema.Uniques), x.Schema.Key) {
		for at := range places[:cap(places)] {
			places[:cap(places)][at] = 90 + i
		}
	}
	clear(x.Schema.Uniques[:cap(x.Schema.Uniques)])
}

// What who goes over the events panics with is his, whatever it is.
func TestEachLetsPanicsGo(t *testing.T) {
	for _, what := range []any{"a text", api.ErrEvent, 7} {
		func() {
			defer func() {
				if given := recover(); given != what {
					t.Error(what, given)
				}
			}()
			for range event.Each([]byte(listOf("\x01\x05\x01\x01t"))) {
				panic(what)
			}
			t.Error(what, "is gone")
		}()
	}
}

// P8.3

func pick[T any](r *rand.Rand, l ...T) T { return l[r.Intn(len(l))] }

func someName(r *rand.Rand) string {
	s := string(rune('a' + r.Intn(26)))
	for range pick(r, 0, 1, 2, 23) {
		s += string("az09_"[r.Intn(5)])
	}
	return s
}

func someRow(r *rand.Rand, many int) []api.Value {
	l := make([]api.Value, many)
	for i := range l {
		n := pick(r, 0, 1, 255, 256, math.MaxUint64, 1<<63, r.Uint64()>>r.Intn(64))
		text := make([]byte, pick(r, 0, 1, 7, 8, 9, 199, 200, r.Intn(201)))
		r.Read(text)
		l[i] = pick(r,
			api.Value{},
			api.Value{Kind: api.ValueInt, Int: int64(n)},
			api.Value{Kind: api.ValueUint, Uint: n},
			api.Value{Kind: api.ValueBool, Int: int64(n & 1)},
			api.Value{Kind: api.ValueBytes, Bytes: string(text)})
	}
	return l
}

func someSchema(r *rand.Rand) api.Schema {
	var s api.Schema
	for i := range 1 + r.Intn(8) {
		s.Columns = append(s.Columns, pick(r,
			api.Column{Name: fmt.Sprint("c", i), Type: api.TypeInt, Size: pick(r, 1, 2, 4, 8)},
			api.Column{Name: fmt.Sprint("u", i), Type: api.TypeUint, Size: pick(r, 1, 2, 4, 8)},
			api.Column{Name: fmt.Sprint("b_", i), Type: api.TypeBool},
			api.Column{Name: fmt.Sprint("bytes", i), Type: api.TypeBytes, Size: 1 + r.Intn(200)}))
	}
	places := func() []int { return r.Perm(len(s.Columns))[:1+r.Intn(min(4, len(s.Columns)))] }
	s.Key = places()
	for range r.Intn(4) {
		s.Uniques = append(s.Uniques, places())
	}
	for i := range s.Columns {
		s.Columns[i].Null = !slices.Contains(s.Key, i) && r.Intn(2) == 0
	}
	return s
}

// someEvent makes events that may be.
func someEvent(r *rand.Rand) api.Event {
	x := api.Event{Kind: api.EventKind(1 + r.Intn(6)), Table: someName(r)}
	many := pick(r, 1, 1, 2, 3, 8)
	switch x.Kind {
	case api.EventInsert:
		x.New = someRow(r, many)
	case api.EventUpdate:
		x.Old, x.New = someRow(r, many), someRow(r, many)
	case api.EventDelete:
		x.Old = someRow(r, many)
	case api.EventCreate:
		x.Schema = someSchema(r)
	case api.EventRename:
		x.Table = ""
		for range 1 + r.Intn(4) {
			x.Names = append(x.Names, [2]string{someName(r), someName(r)})
		}
	}
	return x
}

func TestDecodeOfEncodeIsTheEvent(t *testing.T) {
	r := rand.New(rand.NewSource(1))
	seen := map[string]api.Event{}
	for range 20000 {
		x := someEvent(r)
		b, e := event.Encode(x)
		if event.Check(x) != api.OK || e != api.OK || string(b) != bytesOf(x) {
			t.Fatalf("%v: %x, %v, not %x", x, b, e, bytesOf(x))
		}
		if again, e := event.Decode(b); !event.Same(again, x) || e != api.OK {
			t.Fatalf("%v: %x, %v, %v", x, b, again, e)
		}
		if o, is := seen[string(b)]; is && !event.Same(o, x) {
			t.Fatalf("%x: %v, %v", b, o, x)
		}
		seen[string(b)] = x
	}
}

func TestUnpackOfPackAreTheEvents(t *testing.T) {
	r := rand.New(rand.NewSource(2))
	seen := map[string][]api.Event{}
	for range 1000 {
		l := make([]api.Event, pick(r, 0, 1, 1, 2, 3, 3, 99, 100))
		var texts []string
		for i := range l {
			l[i] = someEvent(r)
			texts = append(texts, bytesOf(l[i]))
		}
		b, e := event.Pack(l...)
		if string(b) != listOf(texts...) || e != api.OK {
			t.Fatalf("%v: %x, %v", l, b, e)
		}
		again, e := event.Unpack(b)
		if over := numbered(t, event.Each(b), math.MaxInt); !sameList(again, l) || !sameList(over, l) || e != api.OK {
			t.Fatalf("%v: %v, %v, %v", l, again, over, e)
		}
		if o, is := seen[string(b)]; is && !sameList(o, l) {
			t.Fatalf("%x: %v, %v", b, o, l)
		}
		seen[string(b)] = l
	}
}

// holds asks of any bytes: if they are an event's, it may be, and its bytes are these.
func holds(t *testing.T, b []byte) bool {
	t.Helper()
	x, e := event.Decode(b)
	if e == api.ErrEvent && isNothing(x) {
		return false
	}
	if again, f := event.Encode(x); e != api.OK || f != api.OK || event.Check(x) != api.OK || !bytes.Equal(again, b) {
		t.Fatalf("%x: %v, %v, %x, %v", b, x, e, again, f)
	}
	return true
}

// spoil changes some bytes, takes some, or lays some among them.
func spoil(r *rand.Rand, b []byte) []byte {
	b = slices.Clone(b)
	for range 1 + r.Intn(2) {
		at, x := r.Intn(len(b)+1), pick(r, 0, 1, 2, 3, 8, 'a', 'A', 255, byte(r.Intn(256)))
		switch {
		case r.Intn(4) == 0:
			b = slices.Insert(b, at, x)
		case at == len(b):
		case r.Intn(4) == 0:
			b = slices.Delete(b, at, at+1)
		default:
			b[at] = x
		}
	}
	return b
}

func TestEncodeOfDecodeIsTheBytes(t *testing.T) {
	r := rand.New(rand.NewSource(3))
	singles, lists := map[bool]int{}, map[bool]int{}
	for range 20000 {
		x, y := someEvent(r), someEvent(r)
		singles[holds(t, spoil(r, []byte(bytesOf(x))))]++
		lists[listHolds(t, spoil(r, []byte(listOf(bytesOf(x), bytesOf(y)))))]++
	}
	if min(singles[false], singles[true], lists[false], lists[true]) < 2000 {
		t.Error("too few of the one, or of the other:", singles, lists)
	}
}

// grown are all texts of these letters up to a length.
func grown(letters string, most int) []string {
	l := []string{""}
	for i := 0; i < len(l); i++ {
		if len(l[i]) < most {
			for _, x := range []byte(letters) {
				l = append(l, l[i]+string([]byte{x}))
			}
		}
	}
	return l
}

// Of all bytes of a few kinds, up to a length, just those are events' that are made of a name, of a row, of pairs of names.
func TestJustEventsBytesAreEvents(t *testing.T) {
	all := map[string]bool{}
	rows, names := 0, 0
	for _, s := range grown("\x00\x01\x02\x03\x04", 4) {
		if l, e := key.Decode(s); e == api.OK && len(l) > 0 {
			rows++
			all["\x01\x01\x01\x01a"+textOf(s)], all["\x01\x03\x01\x01a"+textOf(s)] = true, true
		}
	}
	for _, s := range []string{"a", "aa", "a1", "aaa", "aa1", "a1a", "a11"} {
		names++
		all["\x01\x05"+textOf(s)] = true
		for _, other := range []string{"a", "aa", "a1"} {
			all["\x01\x06\x01\x01"+textOf(s)+textOf(other)] = true
		}
	}
	found := 0
	try := func(ahead string, tails []string) {
		for _, tail := range tails {
			is := holds(t, []byte(ahead+tail))
			if is != all[ahead+tail] {
				t.Fatalf("%x: %t", ahead+tail, is)
			}
			if is {
				found++
			}
		}
	}
	short := grown("\x00\x01\x02\x03\x04", 6)
	try("", short)
	try("\x01\x01\x01\x01a", short)
	try("\x01\x03\x01\x01a", short)
	try("\x01\x05", grown("\x00\x01\x02\x03a1A", 5))
	try("\x01\x06\x01\x01\x01\x01a", grown("\x00\x01\x02a1A", 5))
	if want := 2*rows + names + 3; rows < 40 || found != want {
		t.Error(rows, found, want)
	}
}

// Rules that hold everywhere.

func TestNothingHandedInIsChanged(t *testing.T) {
	room := func() api.Event {
		x := made("t", goods())
		x.Schema.Columns = append(x.Schema.Columns, goods().Columns...)[:2]
		x.Schema.Key = append(x.Schema.Key, 90, 91)[:1]
		x.Schema.Uniques[0] = append(x.Schema.Uniques[0], 92)[:2]
		x.Schema.Uniques = append(x.Schema.Uniques, []int{93})[:1]
		return x
	}
	rows := func() []api.Value { return row("1, 2, 3, 4") }
	pairs := func() [][2]string { return [][2]string{{"t", "u"}, {"v", "w"}, {"x", "y"}} }
	was, is, names := rows(), rows(), pairs()
	l := []api.Event{room(), {Kind: api.EventUpdate, Table: "t", Old: was[:2], New: is[:2]}, {Kind: api.EventRename, Names: names[:2]}, dropped("t")}
	for _, x := range l[:3] {
		event.Check(x)
		event.Encode(x)
		event.Same(x, x)
	}
	event.Pack(l[:3]...)
	x, y := l[0].Schema, room().Schema
	if !slices.Equal(x.Columns[:4], y.Columns[:4]) || !slices.Equal(x.Key[:3], y.Key[:3]) || !slices.Equal(x.Uniques[0][:3], y.Uniques[0][:3]) || !slices.Equal(x.Uniques[:2][1], y.Uniques[:2][1]) {
		t.Error(x)
	}
	if !slices.Equal(was, rows()) || !slices.Equal(is, rows()) || !slices.Equal(names, pairs()) || !event.Same(l[3], dropped("t")) {
		t.Error(was, is, names, l[3])
	}
	_, s := three()
	b := append([]byte(s), "\x01\x05\x01\x01t"...)
	saved := slices.Clone(b)
	for cut := range len(b) + 1 {
		event.Unpack(b[:cut])
		event.Decode(b[:cut])
		event.Decode(b[cut:])
		numbered(t, event.Each(b[:cut]), math.MaxInt)
	}
	if !bytes.Equal(b, saved) {
		t.Error(b)
	}
}

func TestAnswersAreNewMemory(t *testing.T) {
	l, s := three()
	l = append(l, came("t", "1"), went("t", "2"), renamed([2]string{"t", "u"}))
	for _, x := range l {
		a, _ := event.Encode(x)
		b, _ := event.Encode(x)
		clear(a[:cap(a)])
		if string(b) != bytesOf(x) {
			t.Errorf("%x", b)
		}
		y, _ := event.Decode(b)
		z, _ := event.Decode(b)
		clear(b[:cap(b)])
		spill(y)
		if !event.Same(z, x) {
			t.Error(z)
		}
	}
	p, _ := event.Pack(l[:3]...)
	q, _ := event.Pack(l[:3]...)
	clear(p[:cap(p)])
	if string(q) != s {
		t.Errorf("%x", q)
	}
	a, _ := event.Unpack(q)
	b, _ := event.Unpack(q)
	clear(q[:cap(q)])
	clear(a[:cap(a)])
	if !sameList(b, l[:3]) {
		t.Error(b)
	}
}

// No two lists of one answer share any memory.
func TestListsOfOneAnswerAreApart(t *testing.T) {
	x := made("t", goods())
	l, e := event.Unpack([]byte(listOf(bytesOf(x), bytesOf(turned("t", "1", "1")), bytesOf(x), bytesOf(turned("t", "1", "1")))))
	if len(l) != 4 || e != api.OK {
		t.Fatal(l, e)
	}
	spill(l[0])
	clear(l[1].Old[:cap(l[1].Old)])
	if !event.Same(l[2], x) || !slices.Equal(l[1].New, row("1")) || !event.Same(l[3], turned("t", "1", "1")) {
		t.Error(l)
	}
}

func FuzzAnyEvent(f *testing.F) {
	for _, c := range right() {
		f.Add([]byte(c.b))
	}
	f.Fuzz(func(t *testing.T, b []byte) { holds(t, b) })
}

func FuzzAnyEvents(f *testing.F) {
	_, b := three()
	f.Add([]byte(b))
	f.Add([]byte("\x00"))
	f.Fuzz(func(t *testing.T, b []byte) { listHolds(t, b) })
}
