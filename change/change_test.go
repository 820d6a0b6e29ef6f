package change_test

import (
	"fmt"
	"maps"
	"math"
	"math/rand"
	"regexp"
	"slices"
	"strings"
	"testing"

	"swingbridge/api"
	"swingbridge/catalog"
	"swingbridge/change"
	"swingbridge/event"
	"swingbridge/schema"
	"swingbridge/table"
	"swingbridge/value"
)

func null() api.Value         { return api.Value{} }
func num(n int64) api.Value   { return api.Value{Kind: api.ValueInt, Int: n} }
func uns(n uint64) api.Value  { return api.Value{Kind: api.ValueUint, Uint: n} }
func truth(n int64) api.Value { return api.Value{Kind: api.ValueBool, Int: n} }
func text(s string) api.Value { return api.Value{Kind: api.ValueBytes, Bytes: s} }

// nums is a row of numbers with a sign; 0 stands for null.
func nums(l ...int64) (row []api.Value) {
	for _, n := range l {
		if n == 0 {
			row = append(row, null())
		} else {
			row = append(row, num(n))
		}
	}
	return row
}

// ints is a schema of columns of so many bytes; those named in capitals may be null.
func ints(size int, names string, keys []int, uniques ...[]int) api.Schema {
	s := api.Schema{Key: keys, Uniques: uniques}
	for _, name := range strings.Split(names, "") {
		c := api.Column{Name: strings.ToLower(name), Type: api.TypeInt, Size: size, Null: name != strings.ToLower(name)}
		s.Columns = append(s.Columns, c)
	}
	return s
}

// one, two and three are schemas of so many columns.
func one() api.Schema   { return ints(1, "a", []int{0}) }
func two() api.Schema   { return ints(2, "aB", []int{0}, []int{1}) }
func three() api.Schema { return ints(1, "aBc", []int{2, 0}, []int{1}, []int{0, 1}) }

// The statements, by what they do.

func get(t string, key []api.Value) api.Stmt {
	return api.Stmt{Kind: api.StmtGet, Table: t, Key: key}
}

func scan(t string, key []api.Value, limit int) api.Stmt {
	return api.Stmt{Kind: api.StmtScan, Table: t, Key: key, Limit: limit}
}

func insert(t string, row []api.Value) api.Stmt {
	return api.Stmt{Kind: api.StmtInsert, Table: t, Row: row}
}

func ignore(t string, row []api.Value) api.Stmt {
	return api.Stmt{Kind: api.StmtIgnore, Table: t, Row: row}
}

func replace(t string, row []api.Value) api.Stmt {
	return api.Stmt{Kind: api.StmtReplace, Table: t, Row: row}
}

func update(t string, key []api.Value, sets ...api.Set) api.Stmt {
	return api.Stmt{Kind: api.StmtUpdate, Table: t, Key: key, Sets: sets}
}

func remove(t string, key []api.Value) api.Stmt {
	return api.Stmt{Kind: api.StmtDelete, Table: t, Key: key}
}

func create(t string, s api.Schema) api.Stmt {
	return api.Stmt{Kind: api.StmtCreate, Table: t, Schema: s}
}

func drop(t string) api.Stmt { return api.Stmt{Kind: api.StmtDrop, Table: t} }

// rename is of pairs of names, one letter each.
func rename(pairs ...string) api.Stmt {
	s := api.Stmt{Kind: api.StmtRename}
	for _, p := range pairs {
		s.Names = append(s.Names, [2]string{p[:1], p[1:]})
	}
	return s
}

// set is of a column named by one letter; 0 stands for null.
func set(column string, n int64) api.Set { return api.Set{Column: column, Value: nums(n)[0]} }

// The events.

func came(t string, row []api.Value) api.Event {
	return api.Event{Kind: api.EventInsert, Table: t, New: row}
}

func turned(t string, was, is []api.Value) api.Event {
	return api.Event{Kind: api.EventUpdate, Table: t, Old: was, New: is}
}

func went(t string, row []api.Value) api.Event {
	return api.Event{Kind: api.EventDelete, Table: t, Old: row}
}

// What a reply is.

func many(n int) api.Reply            { return api.Reply{Many: n} }
func errno(e api.Errno) api.Reply     { return api.Reply{Errno: e} }
func rows(l ...[]api.Value) api.Reply { return api.Reply{Rows: l} }

// named says which parts each Kind names: a table, a key, a row, sets, a limit, a schema, names of tables.
var named = map[api.StmtKind]string{
	api.StmtGet: "tk", api.StmtScan: "tkl", api.StmtInsert: "tr", api.StmtIgnore: "tr", api.StmtReplace: "tr",
	api.StmtUpdate: "tks", api.StmtDelete: "tk", api.StmtCreate: "tc", api.StmtDrop: "t", api.StmtRename: "n",
}

var name = regexp.MustCompile(`^[a-z][a-z0-9_]{0,23}$`)

// mayBe is Check as the words say it.
func mayBe(s api.Stmt) bool {
	has, is := named[s.Kind]
	ok := func(part string, there, may bool) bool {
		if strings.Contains(has, part) {
			return may
		}
		return !there
	}
	vals := func(l []api.Value) bool {
		for _, v := range l {
			if value.Check(v) != api.OK {
				return false
			}
		}
		return len(l) <= 8
	}
	columns := map[string]int{}
	sets, names := len(s.Sets) >= 1 && len(s.Sets) <= 8, len(s.Names) >= 1 && len(s.Names) <= 4
	for _, x := range s.Sets {
		columns[x.Column]++
		sets = sets && name.MatchString(x.Column) && vals([]api.Value{x.Value}) && columns[x.Column] == 1
	}
	for _, x := range s.Names {
		names = names && name.MatchString(x[0]) && name.MatchString(x[1])
	}
	c := s.Schema
	return is &&
		ok("t", s.Table != "", name.MatchString(s.Table)) &&
		ok("k", len(s.Key) > 0, vals(s.Key)) &&
		ok("r", len(s.Row) > 0, vals(s.Row)) &&
		ok("s", len(s.Sets) > 0, sets) &&
		ok("l", s.Limit != 0, s.Limit >= 1 && s.Limit <= 100) &&
		ok("c", len(c.Columns)+len(c.Key)+len(c.Uniques) > 0, schema.Check(c) == api.OK) &&
		ok("n", len(s.Names) > 0, names)
}

func rowsOf(t *table.Table) (l [][]api.Value) {
	for _, row := range t.Rows("") {
		l = append(l, row)
	}
	return l
}

func at(row []api.Value, places []int) (l []api.Value) {
	for _, n := range places {
		l = append(l, row[n])
	}
	return l
}

// clash asks whether two rows clash in a set of the schema.
func clash(s api.Schema, a, b []api.Value) bool {
	for _, places := range append([][]int{s.Key}, s.Uniques...) {
		if vals := at(a, places); !slices.Contains(vals, null()) && slices.Equal(vals, at(b, places)) {
			return true
		}
	}
	return false
}

// says is what the words say that a statement does, and answers.
func says(c *catalog.Catalog, s api.Stmt) ([]api.Event, api.Reply) {
	if c.Copy() == nil {
		return nil, errno(api.ErrNil)
	}
	if !mayBe(s) {
		return nil, errno(api.ErrArg)
	}
	l, r := does(c, s)
	if r.Errno != api.OK {
		return nil, r
	}
	if _, e := c.Copy().All(l...); e != api.OK {
		return nil, errno(e)
	}
	return l, r
}

func does(c *catalog.Catalog, s api.Stmt) (l []api.Event, r api.Reply) {
	switch s.Kind {
	case api.StmtCreate:
		return []api.Event{{Kind: api.EventCreate, Table: s.Table, Schema: s.Schema}}, r
	case api.StmtDrop:
		return []api.Event{{Kind: api.EventDrop, Table: s.Table}}, r
	case api.StmtRename:
		return []api.Event{{Kind: api.EventRename, Names: s.Names}}, r
	}
	t, is := c.Table(s.Table)
	if !is {
		return nil, errno(api.ErrNone)
	}
	k := t.Schema()
	for _, x := range s.Sets {
		if _, is := schema.Place(k, x.Column); !is {
			return nil, errno(api.ErrNone)
		}
	}
	if named[s.Kind] == "tr" {
		return comes(t, s)
	}
	if len(s.Key) > len(k.Key) || len(s.Key) < len(k.Key) && s.Kind != api.StmtScan {
		return nil, errno(api.ErrCount)
	}
	for _, row := range rowsOf(t) {
		order := value.Lists(at(row, k.Key), s.Key)
		if s.Kind == api.StmtScan && order >= 0 && len(r.Rows) < s.Limit || s.Kind == api.StmtGet && order == 0 {
			r.Rows = append(r.Rows, row)
		}
		if s.Kind == api.StmtDelete && order == 0 {
			return []api.Event{went(s.Table, row)}, many(1)
		}
		if s.Kind == api.StmtUpdate && order == 0 {
			then := slices.Clone(row)
			for _, x := range s.Sets {
				n, _ := schema.Place(k, x.Column)
				then[n] = x.Value
			}
			if !slices.Equal(then, row) {
				return []api.Event{turned(s.Table, row, then)}, many(1)
			}
		}
	}
	return nil, r
}

func comes(t *table.Table, s api.Stmt) (l []api.Event, r api.Reply) {
	k := t.Schema()
	if e := schema.Row(k, s.Row...); e != api.OK {
		return nil, errno(e)
	}
	for _, row := range rowsOf(t) {
		if clash(k, row, s.Row) {
			l = append(l, went(s.Table, row))
		}
	}
	switch s.Kind {
	case api.StmtReplace:
		return append(l, came(s.Table, s.Row)), many(len(l) + 1)
	case api.StmtIgnore:
		if len(l) > 0 {
			return nil, many(0)
		}
	}
	return []api.Event{came(s.Table, s.Row)}, many(1)
}

func sameEvents(a, b []api.Event) bool { return slices.EqualFunc(a, b, event.Same) }

// plain is SameReply, by other means.
func plain(r api.Reply) string {
	texts := []string{r.Errno.Error(), fmt.Sprint(r.Many)}
	for _, row := range r.Rows {
		texts = append(texts, fmt.Sprintf("%#v", append([]api.Value{}, row...)))
	}
	return strings.Join(texts, "; ")
}

// do holds what a statement does against the words, and lets it be done.
func do(t testing.TB, c *catalog.Catalog, s api.Stmt) api.Reply {
	t.Helper()
	before := c.Copy()
	wantEvents, want := says(c, s)
	l, r := change.Of(c, s)
	if !sameEvents(l, wantEvents) || plain(r) != plain(want) || !change.SameReply(r, want) {
		t.Fatalf("%v: %v, %v, not %v, %v", s, l, plain(r), wantEvents, plain(want))
	}
	if !catalog.Same(c, before) {
		t.Fatalf("%v: told, and the catalog is another one", s)
	}
	if r.Errno != api.OK && l != nil || r.Rows != nil && !change.Reads(s) {
		t.Fatalf("%v: %v, %v", s, l, r)
	}
	r = change.Do(c, s)
	if plain(r) != plain(want) {
		t.Fatalf("%v: done: %v, not %v", s, plain(r), plain(want))
	}
	follows(t, before, c, s, l, r)
	return r
}

// follows holds what P14.3 says of a statement that was done.
func follows(t testing.TB, before, c *catalog.Catalog, s api.Stmt, l []api.Event, r api.Reply) {
	t.Helper()
	then := before.Copy()
	if n, e := then.All(l...); n != 0 || e != api.OK || before.Copy() != nil && !catalog.Same(then, c) {
		t.Fatalf("%v: the events do something else: %d, %v", s, n, e)
	}
	if (r.Errno != api.OK || change.Reads(s)) && (l != nil || !catalog.Same(c, before)) {
		t.Fatalf("%v: something is changed", s)
	}
	if r.Errno != api.OK {
		return
	}
	b, _ := c.Table(s.Table)
	switch s.Kind {
	case api.StmtInsert, api.StmtReplace:
		if told := change.Do(c, get(s.Table, at(s.Row, b.Schema().Key))); plain(told) != plain(rows(s.Row)) {
			t.Fatalf("%v: then %v", s, told)
		}
	case api.StmtDelete:
		if told := change.Do(c, get(s.Table, s.Key)); plain(told) != plain(rows()) {
			t.Fatalf("%v: then %v", s, told)
		}
	}
}

// of makes a catalog by statements, each of which is done.
func of(t testing.TB, l ...api.Stmt) *catalog.Catalog {
	t.Helper()
	c := catalog.New()
	for _, s := range l {
		if r := do(t, c, s); r.Errno != api.OK {
			t.Fatal(s, r)
		}
	}
	return c
}

// some is a catalog of t: (1, 5), (2, 6), (3, null); u: (7); v: (1, null, 1), (2, 3, 1), (1, 4, 2), by their keys, which are of c and a; and w without rows.
func some(t testing.TB) *catalog.Catalog {
	t.Helper()
	return of(t, create("t", two()), insert("t", nums(3, 0)), insert("t", nums(1, 5)), insert("t", nums(2, 6)),
		create("u", one()), insert("u", nums(7)), create("w", two()),
		create("v", three()), insert("v", nums(1, 4, 2)), insert("v", nums(2, 3, 1)), insert("v", nums(1, 0, 1)))
}

// nones are catalogs that are not there.
func nones() []*catalog.Catalog {
	var none *catalog.Catalog
	return []*catalog.Catalog{nil, {}, none.Copy()}
}

// wrongNames are no names of tables, or of columns.
var wrongNames = []string{"", "T", "tT", "1t", "_t", "t-", "t ", "\x00", "t\x00", "\xff\xfe", "é", strings.Repeat("n", 25), strings.Repeat("n", 100000)}

// wrongValues may not be; the last ones are too long.
var wrongValues = []api.Value{
	{Kind: -1}, {Kind: 5}, {Kind: math.MaxInt}, {Int: 1}, {Uint: 1}, {Bytes: "x"}, {Kind: api.ValueInt, Uint: 1}, {Kind: api.ValueUint, Int: 1},
	{Kind: api.ValueBool, Int: 2}, {Kind: api.ValueBool, Int: -1}, {Kind: api.ValueBool, Bytes: "x"}, {Kind: api.ValueBytes, Int: 1},
	text(strings.Repeat("a", 201)), text(strings.Repeat("a", 100000)),
}

// wrongSchemas may not be, and are not empty.
func wrongSchemas() []api.Schema {
	return []api.Schema{
		{Key: []int{0}}, {Uniques: [][]int{{0}}}, {Uniques: [][]int{nil}}, {Columns: one().Columns}, ints(3, "a", []int{0}), ints(1, "A", []int{0}), ints(1, "aa", []int{0}),
		ints(1, "a", []int{1}), ints(1, "a", []int{0, 0}), ints(1, "a", []int{0}, nil), ints(1, "abcdefghi", []int{0}), ints(1, "a", []int{0}, []int{0}, []int{0}, []int{0}, []int{0}),
	}
}

// right are statements of all Kinds that may be.
func right() []api.Stmt {
	longest := strings.Repeat("n", 24)
	full := slices.Repeat([]api.Value{text(strings.Repeat("a", 200))}, 8)
	sets := func(n int) (l []api.Set) {
		for i := range n {
			l = append(l, set(string(rune('a'+i)), int64(i)))
		}
		return l
	}
	l := []api.Stmt{
		get("t", nil), get("t", nums(1)), get(longest, full), get("t0_", []api.Value{null(), truth(1), uns(math.MaxUint64), num(math.MinInt64)}),
		scan("t", nil, 1), scan("t", nil, 100), scan("t", nums(0, 0), 99), scan(longest, full, 50),
		update("t", nil, sets(1)...), update("t", nums(1), sets(8)...), update(longest, full, sets(2)...), update("t", nums(1), api.Set{Column: longest, Value: full[0]}),
		remove("t", nil), remove("t", nums(1)), remove(longest, full),
		create("t", one()), create(longest, two()), create("t", three()), create("t", ints(8, "abCDEFGH", []int{0, 1}, []int{2, 3, 4, 5}, []int{7}, []int{7})),
		drop("t"), drop(longest),
		rename("tu"), rename("tt"), rename("tu", "tu"), rename("tu", "ut"), rename("ab", "bc", "cd", "da"), rename("ab", "ac", "ad", "ae"),
		{Kind: api.StmtRename, Names: [][2]string{{longest, "t"}, {"t", longest}}},
	}
	for _, kind := range []func(string, []api.Value) api.Stmt{insert, ignore, replace} {
		l = append(l, kind("t", nil), kind("t", nums(1, 0)), kind(longest, full), kind("t", slices.Repeat(nums(0), 8)))
	}
	return l
}

// wrong are statements that may not be.
func wrong() []api.Stmt {
	nine := slices.Repeat(nums(1), 9)
	l := []api.Stmt{{}, {Table: "t"}, {Kind: 11, Table: "t"}, {Kind: -1, Table: "t"}, {Kind: math.MaxInt, Table: "t"}, {Kind: math.MinInt}}
	for _, limit := range []int{0, -1, 101, math.MaxInt, math.MinInt} {
		l = append(l, scan("t", nil, limit), scan("t", nums(1), limit))
	}
	for _, vals := range [][]api.Value{nine, slices.Repeat(nums(1), 100000)} {
		l = append(l, get("t", vals), scan("t", vals, 1), insert("t", vals), ignore("t", vals), replace("t", vals), update("t", vals, set("b", 1)), remove("t", vals))
	}
	for _, v := range wrongValues {
		for _, vals := range [][]api.Value{{v}, {num(1), v}, append(slices.Repeat(nums(1), 7), v)} {
			l = append(l, get("t", vals), scan("t", vals, 1), insert("t", vals), ignore("t", vals), replace("t", vals), update("t", vals, set("b", 1)), remove("t", vals))
		}
		l = append(l, update("t", nums(1), api.Set{Column: "b", Value: v}), update("t", nums(1), set("a", 1), api.Set{Column: "b", Value: v}))
	}
	for _, name := range wrongNames {
		l = append(l, get(name, nums(1)), scan(name, nil, 1), insert(name, nums(1)), ignore(name, nums(1)), replace(name, nums(1)), update(name, nums(1), set("b", 1)), remove(name, nums(1)), create(name, one()), drop(name))
		l = append(l, update("t", nums(1), set(name, 1)), update("t", nums(1), set("b", 1), set(name, 1)))
		for n := range 4 {
			for _, pair := range [][2]string{{name, "x"}, {"t", name}} {
				x := rename("tu", "ut", "vx", "wy")
				x.Names[n] = pair
				l = append(l, x)
			}
		}
	}
	for _, s := range wrongSchemas() {
		l = append(l, create("t", s), create("x", s))
	}
	var sets []api.Set
	for n := range 9 {
		sets = append(sets, set(string(rune('a'+n)), 1))
	}
	return append(l,
		update("t", nums(1)), update("t", nums(1), sets...), update("t", nums(1), slices.Repeat(sets, 10000)...),
		update("t", nums(1), set("b", 1), set("b", 1)), update("t", nums(1), set("b", 1), set("b", 2)), update("t", nums(1), set("b", 1), set("a", 1), set("b", 1)),
		create("x", api.Schema{}), rename(), rename("tx", "uy", "vz", "wa", "ab"), api.Stmt{Kind: api.StmtRename, Names: slices.Repeat(rename("tx").Names, 100000)})
}

// strange are statements of all Kinds and of none that have any parts: each of those that they have may be, where it is named.
func strange(each func(s api.Stmt, has string)) {
	parts := "tkrslcn"
	for kind := api.StmtKind(-1); kind <= 12; kind++ {
		for those := range 1 << len(parts) {
			s, has := api.Stmt{Kind: kind}, ""
			for n, part := range parts {
				if those>>n&1 == 0 {
					continue
				}
				has += string(part)
				switch part {
				case 't':
					s.Table = "t"
				case 'k':
					s.Key = nums(1)
				case 'r':
					s.Row = nums(9, 9)
				case 's':
					s.Sets = []api.Set{set("b", 7)}
				case 'l':
					s.Limit = 1
				case 'c':
					s.Schema = one()
				case 'n':
					s.Names = [][2]string{{"t", "x"}}
				}
			}
			each(s, has)
		}
	}
}

// P14.1: Check, Reads, Tables, SameReply.

func TestCheck(t *testing.T) {
	for _, s := range right() {
		if e := change.Check(s); e != api.OK || !mayBe(s) {
			t.Errorf("%.300v: %v", s, e)
		}
	}
	for _, s := range wrong() {
		if e := change.Check(s); e != api.ErrArg || mayBe(s) {
			t.Errorf("%.300v: %v", s, e)
		}
	}
}

// What a Kind does not name is empty. What it names is there, but for a Key, and a Row, which may have no values.
func TestCheckOfAnyParts(t *testing.T) {
	oks := 0
	strange(func(s api.Stmt, has string) {
		want := api.ErrArg
		if parts, is := named[s.Kind]; is && strings.Trim(has, parts) == "" && strings.Trim(parts, has+"kr") == "" {
			want = api.OK
			oks++
		}
		if e := change.Check(s); e != want {
			t.Errorf("%d of %s: %v", s.Kind, has, e)
		}
	})
	if oks != 17 { // of nine Kinds that name a table, and one of names; seven may have no values
		t.Error(oks)
	}
}

func TestReads(t *testing.T) {
	strange(func(s api.Stmt, has string) {
		if is := change.Reads(s); is != (s.Kind == 1 || s.Kind == 2) {
			t.Errorf("%d of %s: %v", s.Kind, has, is)
		}
	})
}

func TestTables(t *testing.T) {
	for n, x := range []struct {
		s    api.Stmt
		want string
	}{
		{get("t", nil), "t"},
		{drop("u"), "u"},
		{drop(""), ""},
		{api.Stmt{}, ""},
		{rename(), ""},
		{rename("tu"), "t u"},
		{rename("ut"), "t u"},
		{rename("tt"), "t"},
		{rename("dc", "ab", "ba", "ce"), "a b c d e"},
		{rename("zy", "yx", "xw", "wv", "vu", "ut", "tz"), "t u v w x y z"},
		{api.Stmt{Table: "b", Names: [][2]string{{"c", "a"}, {"b", ""}, {"", "d"}, {"", ""}}}, "a b c d"},
		{api.Stmt{Kind: 99, Table: "\xff", Names: [][2]string{{"T", "\x00"}, {"tt", "t"}}}, "\x00 T t tt \xff"},
		{api.Stmt{Kind: api.StmtInsert, Table: "t", Names: [][2]string{{"s", "u"}}}, "s t u"},
		{api.Stmt{Kind: api.StmtRename, Table: "t", Names: [][2]string{{"s", "u"}}}, "s t u"},
		{api.Stmt{Kind: api.StmtCreate, Table: "t10", Names: [][2]string{{"t9", "t1"}, {"t", "s9"}}}, "s9 t t1 t10 t9"},
		{api.Stmt{Kind: api.StmtUpdate, Table: "t", Sets: []api.Set{set("a", 1)}, Schema: one()}, "t"},
	} {
		over := change.Tables(x.s)
		want := strings.Fields(strings.ReplaceAll(x.want, "\x00", "@"))
		for range 2 {
			got := slices.Collect(over)
			for i := range got {
				got[i] = strings.ReplaceAll(got[i], "\x00", "@")
			}
			if !slices.Equal(got, want) {
				t.Errorf("%d: %q, not %q", n, got, want)
			}
		}
	}
	big := api.Stmt{}
	for n := range 30000 {
		big.Names = append(big.Names, [2]string{fmt.Sprint("n", n%100), ""})
	}
	if l := slices.Collect(change.Tables(big)); len(l) != 100 || !slices.IsSorted(l) {
		t.Error(len(l))
	}
}

// It may be left at any time, and gone over again, in one another, too; what its caller does with the statement then is his.
func TestTablesLeft(t *testing.T) {
	s := rename("dc", "ab", "ba", "ce")
	over := change.Tables(s)
	all := []string{"a", "b", "c", "d", "e"}
	s.Names[0], s.Names[1], s.Table = [2]string{"x", "y"}, [2]string{"x", "y"}, "z"
	for many := range len(all) + 1 {
		var l []string
		for name := range over {
			if len(l) == many {
				break
			}
			l = append(l, name)
		}
		if !slices.Equal(l, all[:many]) {
			t.Error(many, l)
		}
	}
	var pairs []string
	for a := range over {
		for b := range over {
			pairs = append(pairs, a+b)
		}
	}
	if len(pairs) != 25 || !slices.IsSorted(pairs) || pairs[24] != "ee" {
		t.Error(pairs)
	}
	for _, thrown := range []any{"mine", api.ErrArg} {
		func() {
			defer func() {
				if given := recover(); given != thrown {
					t.Error(given)
				}
			}()
			for range over {
				panic(thrown)
			}
		}()
	}
	if !slices.Equal(slices.Collect(over), all) {
		t.Error("it is another one behind that")
	}
}

func TestTablesTellsNothingOf(t *testing.T) {
	for _, s := range []api.Stmt{{}, {Kind: api.StmtRename, Names: make([][2]string, 3)}, {Kind: api.StmtInsert, Row: nums(1)}} {
		if over := change.Tables(s); over == nil || slices.Collect(over) != nil {
			t.Error(s)
		}
	}
}

// Neither the names that are handed in, nor what stands behind them, are changed.
func TestTablesChangesNothing(t *testing.T) {
	names := [][2]string{{"d", "c"}, {"b", "a"}, {"z", "y"}}
	if l := slices.Collect(change.Tables(api.Stmt{Kind: api.StmtRename, Table: "q", Names: names[:2]})); len(l) != 5 {
		t.Error(l)
	}
	if !slices.Equal(names, [][2]string{{"d", "c"}, {"b", "a"}, {"z", "y"}}) {
		t.Error(names)
	}
}

func TestSameReply(t *testing.T) {
	l := []api.Reply{
		{}, {Errno: 1}, {Errno: -1}, {Errno: math.MaxInt}, {Many: 1}, {Many: -1}, {Many: math.MinInt}, {Errno: 1, Many: 1},
		rows(nil), rows(nil, nil), rows(nums(0)), rows(nums(0, 0)), rows(nums(0), nil), rows(nil, nums(0)), rows(nums(0), nums(0)),
		rows(nums(1)), rows(nums(1, 2)), rows(nums(2, 1)), rows(nums(1), nums(2)), rows(nums(2), nums(1)), rows(nums(1), nums(2), nums(2)),
		rows([]api.Value{uns(1)}), rows([]api.Value{truth(1)}), rows([]api.Value{text("1")}), rows([]api.Value{{Int: 1}}), rows([]api.Value{{Kind: 9}}), rows([]api.Value{text("")}),
		{Many: 1, Rows: [][]api.Value{nums(1)}}, {Errno: 1, Rows: [][]api.Value{nums(1)}}, {Errno: 1, Many: 1, Rows: [][]api.Value{nums(1)}},
	}
	for i, a := range l {
		for j, b := range l {
			if change.SameReply(a, b) != (i == j) || change.SameReply(a, copied(b)) != (i == j) {
				t.Error(a, b)
			}
		}
	}
	if !change.SameReply(api.Reply{Rows: [][]api.Value{}}, api.Reply{}) || !change.SameReply(rows([]api.Value{}, nums(1)), rows(nil, nums(1))) {
		t.Error("an empty list is another one than none")
	}
}

func copied(r api.Reply) api.Reply {
	l := [][]api.Value{}
	for _, row := range r.Rows {
		l = append(l, append([]api.Value{}, row...))
	}
	r.Rows = l
	return r
}

// P14.2: Of, Do.

func TestExamples(t *testing.T) {
	c := of(t, create("t", ints(1, "ab", []int{0}, []int{1})), insert("t", nums(1, 5)), insert("t", nums(2, 6)))
	l, r := change.Of(c, replace("t", nums(1, 6)))
	if !change.SameReply(r, many(3)) || !sameEvents(l, []api.Event{went("t", nums(1, 5)), went("t", nums(2, 6)), came("t", nums(1, 6))}) {
		t.Error(l, r)
	}
	for _, x := range []struct {
		s api.Stmt
		r api.Reply
	}{
		{replace("t", nums(1, 6)), many(3)},
		{scan("t", nil, 9), rows(nums(1, 6))},
		{update("t", nums(1), set("b", 6)), many(0)},
		{update("t", nums(7), set("b", 1)), many(0)},
		{insert("t", nums(1, 9)), errno(api.ErrTaken)},
		{get("t", nums(1, 2)), errno(api.ErrCount)},
	} {
		if r := do(t, c, x.s); !change.SameReply(r, x.r) {
			t.Error(x.s, r)
		}
	}
}

// What is not there is told of ahead of any statement.
func TestNone(t *testing.T) {
	for n, c := range nones() {
		for _, s := range append(wrong(), right()...) {
			if l, r := change.Of(c, s); l != nil || plain(r) != plain(errno(api.ErrNil)) {
				t.Errorf("%d: %.300v: %v, %v", n, s, l, r)
			}
			if r := change.Do(c, s); plain(r) != plain(errno(api.ErrNil)) {
				t.Errorf("%d: %.300v: %v", n, s, r)
			}
		}
	}
}

// What may not be is told of whatever the catalog has.
func TestWrongStatements(t *testing.T) {
	full, empty := some(t), catalog.New()
	before := full.Copy()
	ask := func(s api.Stmt) {
		for _, c := range []*catalog.Catalog{full, empty} {
			if l, r := change.Of(c, s); l != nil || plain(r) != plain(errno(api.ErrArg)) {
				t.Errorf("%.300v: %v, %v", s, l, r)
			}
			if r := change.Do(c, s); plain(r) != plain(errno(api.ErrArg)) {
				t.Errorf("%.300v: %v", s, r)
			}
		}
	}
	for _, s := range wrong() {
		ask(s)
	}
	strange(func(s api.Stmt, has string) {
		if !mayBe(s) {
			ask(s)
		}
	})
	if !catalog.Same(full, before) || !catalog.Same(empty, catalog.New()) {
		t.Error("something is changed")
	}
}

// All that may be, done to a catalog without tables, and to one that has some.
func TestRightStatements(t *testing.T) {
	for _, s := range right() {
		do(t, catalog.New(), s)
		do(t, some(t), s)
	}
}

// What reads: of t: (1, 5), (2, 6), (3, null); u: (7); v: (1, null, 1), (2, 3, 1), (1, 4, 2) by c, then a; w without rows.
func TestReading(t *testing.T) {
	c := some(t)
	v1, v2, v3 := nums(1, 0, 1), nums(2, 3, 1), nums(1, 4, 2)
	for _, x := range []struct {
		s api.Stmt
		r api.Reply
	}{
		{get("t", nums(1)), rows(nums(1, 5))},
		{get("t", nums(3)), rows(nums(3, 0))},
		{get("t", nums(4)), rows()},
		{get("t", nums(0)), rows()},
		{get("t", nums(40000)), rows()}, // what does not fit is not there
		{get("t", []api.Value{uns(1)}), rows()},
		{get("t", []api.Value{text("1")}), rows()},
		{get("t", []api.Value{text(strings.Repeat("a", 200))}), rows()},
		{get("u", nums(7)), rows(nums(7))},
		{get("v", nums(1, 2)), rows(v2)},
		{get("v", nums(2, 1)), rows(v3)},
		{get("v", nums(2, 2)), rows()},
		{get("w", nums(1)), rows()},
		{get("x", nums(1)), errno(api.ErrNone)},
		{get("x", nil), errno(api.ErrNone)}, // ahead of how many there are
		{get("t", nil), errno(api.ErrCount)},
		{get("t", nums(1, 5)), errno(api.ErrCount)},
		{get("v", nums(1)), errno(api.ErrCount)},
		{get("v", nums(1, 2, 3)), errno(api.ErrCount)},

		{scan("t", nil, 100), rows(nums(1, 5), nums(2, 6), nums(3, 0))},
		{scan("t", nil, 3), rows(nums(1, 5), nums(2, 6), nums(3, 0))},
		{scan("t", nil, 2), rows(nums(1, 5), nums(2, 6))},
		{scan("t", nil, 1), rows(nums(1, 5))},
		{scan("t", nums(1), 2), rows(nums(1, 5), nums(2, 6))},
		{scan("t", nums(2), 100), rows(nums(2, 6), nums(3, 0))},
		{scan("t", nums(2), 1), rows(nums(2, 6))},
		{scan("t", nums(3), 1), rows(nums(3, 0))},
		{scan("t", nums(4), 1), rows()},
		{scan("t", nums(-1), 1), rows(nums(1, 5))},
		{scan("t", nums(0), 1), rows(nums(1, 5))}, // null is below all
		{scan("t", nums(40000), 1), rows()},
		{scan("t", nums(math.MinInt64), 1), rows(nums(1, 5))},
		{scan("t", []api.Value{uns(0)}, 9), rows()}, // a number of another Kind is above
		{scan("t", []api.Value{truth(0)}, 9), rows()},
		{scan("w", nil, 100), rows()},
		{scan("v", nil, 100), rows(v1, v2, v3)},
		{scan("v", nums(1), 100), rows(v1, v2, v3)},
		{scan("v", nums(1, 1), 100), rows(v1, v2, v3)},
		{scan("v", nums(1, 2), 100), rows(v2, v3)},
		{scan("v", nums(1, 3), 100), rows(v3)},
		{scan("v", nums(1, 0), 2), rows(v1, v2)},
		{scan("v", nums(2), 100), rows(v3)},
		{scan("v", nums(2, 1), 100), rows(v3)},
		{scan("v", nums(2, 2), 100), rows()},
		{scan("v", nums(3), 100), rows()},
		{scan("x", nil, 1), errno(api.ErrNone)},
		{scan("x", nums(1, 2, 3, 4), 1), errno(api.ErrNone)},
		{scan("t", nums(1, 5), 1), errno(api.ErrCount)},
		{scan("v", nums(1, 2, 3), 1), errno(api.ErrCount)},
		{scan("w", nums(1, 2), 1), errno(api.ErrCount)},
	} {
		if r := do(t, c, x.s); plain(r) != plain(x.r) {
			t.Errorf("%v: %v, not %v", x.s, r, x.r)
		}
	}
	if !catalog.Same(c, some(t)) {
		t.Error("something is changed")
	}
}

// What lets rows come, turn, go, of the same tables. Where there are no events, and no error, there is nothing to be done.
func TestWriting(t *testing.T) {
	long := func(n int) []api.Value { return slices.Repeat(nums(1), n) }
	for _, x := range []struct {
		s api.Stmt
		r api.Reply
		l []api.Event
	}{
		{insert("t", nums(4, 7)), many(1), []api.Event{came("t", nums(4, 7))}},
		{insert("t", nums(4, 0)), many(1), []api.Event{came("t", nums(4, 0))}},
		{insert("w", nums(1, 5)), many(1), []api.Event{came("w", nums(1, 5))}},
		{insert("t", nums(1, 5)), errno(api.ErrTaken), nil},
		{insert("t", nums(1, 0)), errno(api.ErrTaken), nil},
		{insert("t", nums(4, 5)), errno(api.ErrTaken), nil},
		{insert("t", nums(1, 6)), errno(api.ErrTaken), nil},
		{insert("x", nums(1, 5)), errno(api.ErrNone), nil},
		{insert("x", nil), errno(api.ErrNone), nil}, // ahead of what no table has
		{insert("t", nil), errno(api.ErrCount), nil},
		{insert("t", long(1)), errno(api.ErrCount), nil},
		{insert("t", long(3)), errno(api.ErrCount), nil},
		{insert("t", long(8)), errno(api.ErrCount), nil},
		{insert("t", nums(0, 5)), errno(api.ErrNull), nil},
		{insert("t", []api.Value{uns(4), null()}), errno(api.ErrType), nil},
		{insert("t", nums(1, 40000)), errno(api.ErrSize), nil}, // ahead of what is taken

		{ignore("t", nums(4, 7)), many(1), []api.Event{came("t", nums(4, 7))}},
		{ignore("t", nums(4, 0)), many(1), []api.Event{came("t", nums(4, 0))}},
		{ignore("t", nums(1, 5)), many(0), nil},
		{ignore("t", nums(1, 7)), many(0), nil},
		{ignore("t", nums(4, 6)), many(0), nil},
		{ignore("t", nums(1, 6)), many(0), nil},
		{ignore("x", nums(1, 5)), errno(api.ErrNone), nil},
		{ignore("t", nil), errno(api.ErrCount), nil},
		{ignore("t", long(3)), errno(api.ErrCount), nil},
		{ignore("t", nums(0, 5)), errno(api.ErrNull), nil},
		{ignore("t", []api.Value{num(1), text("5")}), errno(api.ErrType), nil},
		{ignore("t", nums(1, 40000)), errno(api.ErrSize), nil},

		{replace("t", nums(4, 7)), many(1), []api.Event{came("t", nums(4, 7))}},
		{replace("t", nums(1, 7)), many(2), []api.Event{went("t", nums(1, 5)), came("t", nums(1, 7))}},
		{replace("t", nums(1, 5)), many(2), []api.Event{went("t", nums(1, 5)), came("t", nums(1, 5))}}, // it is as any other one that clashes
		{replace("t", nums(3, 0)), many(2), []api.Event{went("t", nums(3, 0)), came("t", nums(3, 0))}},
		{replace("t", nums(4, 0)), many(1), []api.Event{came("t", nums(4, 0))}},
		{replace("t", nums(4, 6)), many(2), []api.Event{went("t", nums(2, 6)), came("t", nums(4, 6))}},
		{replace("t", nums(1, 6)), many(3), []api.Event{went("t", nums(1, 5)), went("t", nums(2, 6)), came("t", nums(1, 6))}},
		{replace("t", nums(3, 5)), many(3), []api.Event{went("t", nums(1, 5)), went("t", nums(3, 0)), came("t", nums(3, 5))}},
		{replace("v", nums(2, 4, 1)), many(3), []api.Event{went("v", nums(2, 3, 1)), went("v", nums(1, 4, 2)), came("v", nums(2, 4, 1))}},
		{replace("x", nums(1, 5)), errno(api.ErrNone), nil},
		{replace("t", nil), errno(api.ErrCount), nil},
		{replace("t", nums(0, 5)), errno(api.ErrNull), nil},
		{replace("t", []api.Value{num(1), truth(1)}), errno(api.ErrType), nil},
		{replace("t", nums(40000, 5)), errno(api.ErrSize), nil},

		{update("t", nums(1), set("b", 7)), many(1), []api.Event{turned("t", nums(1, 5), nums(1, 7))}},
		{update("t", nums(1), set("b", 0)), many(1), []api.Event{turned("t", nums(1, 5), nums(1, 0))}},
		{update("t", nums(3), set("b", 7)), many(1), []api.Event{turned("t", nums(3, 0), nums(3, 7))}},
		{update("t", nums(1), set("a", 4)), many(1), []api.Event{turned("t", nums(1, 5), nums(4, 5))}},
		{update("t", nums(1), set("b", 7), set("a", 4)), many(1), []api.Event{turned("t", nums(1, 5), nums(4, 7))}},
		{update("t", nums(1), set("b", 7), set("a", 1)), many(1), []api.Event{turned("t", nums(1, 5), nums(1, 7))}},
		{update("v", nums(1, 2), set("c", 3), set("b", 9)), many(1), []api.Event{turned("v", nums(2, 3, 1), nums(2, 9, 3))}},
		{update("t", nums(1), set("b", 5)), many(0), nil},
		{update("t", nums(1), set("a", 1), set("b", 5)), many(0), nil},
		{update("t", nums(3), set("b", 0)), many(0), nil},
		{update("t", nums(4), set("b", 5)), many(0), nil},
		{update("t", nums(4), set("b", 40000)), many(0), nil}, // of no row no value is refused
		{update("t", nums(0), set("b", 7)), many(0), nil},
		{update("t", nums(40000), set("b", 7)), many(0), nil},
		{update("t", []api.Value{uns(1)}, set("b", 7)), many(0), nil},
		{update("w", nums(1), set("b", 7)), many(0), nil},
		{update("t", nums(1), set("b", 6)), errno(api.ErrTaken), nil},
		{update("t", nums(1), set("a", 2)), errno(api.ErrTaken), nil},
		{update("t", nums(1), set("a", 2), set("b", 9)), errno(api.ErrTaken), nil},
		{update("x", nums(1), set("b", 7)), errno(api.ErrNone), nil},
		{update("t", nums(1), set("c", 7)), errno(api.ErrNone), nil},
		{update("t", nums(1), set("b", 7), set("c", 7)), errno(api.ErrNone), nil},
		{update("t", nums(4), set("c", 7)), errno(api.ErrNone), nil},
		{update("t", nil, set("c", 7)), errno(api.ErrNone), nil}, // ahead of how many values the Key has
		{update("t", nil, set("b", 7)), errno(api.ErrCount), nil},
		{update("t", nums(1, 5), set("b", 7)), errno(api.ErrCount), nil},
		{update("v", nums(1), set("b", 40)), errno(api.ErrCount), nil},
		{update("t", nums(4, 4), set("b", 40000)), errno(api.ErrCount), nil},
		{update("t", nums(1), set("a", 0)), errno(api.ErrNull), nil},
		{update("t", nums(1), api.Set{Column: "b", Value: truth(1)}), errno(api.ErrType), nil},
		{update("t", nums(1), set("b", 40000)), errno(api.ErrSize), nil},
		{update("t", nums(1), set("b", 40000), set("a", 0)), errno(api.ErrNull), nil}, // from the left of the row
		{update("t", nums(1), set("b", 40000), set("a", 2)), errno(api.ErrSize), nil}, // ahead of what is taken

		{remove("t", nums(1)), many(1), []api.Event{went("t", nums(1, 5))}},
		{remove("t", nums(3)), many(1), []api.Event{went("t", nums(3, 0))}},
		{remove("v", nums(2, 1)), many(1), []api.Event{went("v", nums(1, 4, 2))}},
		{remove("t", nums(4)), many(0), nil},
		{remove("t", nums(0)), many(0), nil},
		{remove("t", []api.Value{uns(1)}), many(0), nil},
		{remove("w", nums(1)), many(0), nil},
		{remove("x", nums(1)), errno(api.ErrNone), nil},
		{remove("x", nil), errno(api.ErrNone), nil},
		{remove("t", nil), errno(api.ErrCount), nil},
		{remove("t", nums(1, 5)), errno(api.ErrCount), nil},
		{remove("v", nums(2)), errno(api.ErrCount), nil},

		{create("x", three()), many(0), []api.Event{{Kind: api.EventCreate, Table: "x", Schema: three()}}},
		{create("t", two()), errno(api.ErrTaken), nil},
		{create("w", one()), errno(api.ErrTaken), nil},
		{drop("t"), many(0), []api.Event{{Kind: api.EventDrop, Table: "t"}}},
		{drop("x"), errno(api.ErrNone), nil},
		{rename("tx"), many(0), []api.Event{{Kind: api.EventRename, Names: [][2]string{{"t", "x"}}}}},
		{rename("tu", "ut"), many(0), []api.Event{{Kind: api.EventRename, Names: [][2]string{{"t", "u"}, {"u", "t"}}}}},
		{rename("tt"), many(0), []api.Event{{Kind: api.EventRename, Names: [][2]string{{"t", "t"}}}}},
		{rename("tu"), errno(api.ErrTaken), nil},
		{rename("tx", "ux"), errno(api.ErrTaken), nil},
		{rename("xy"), errno(api.ErrNone), nil},
		{rename("xt"), errno(api.ErrNone), nil},
		{rename("tx", "ty"), errno(api.ErrArg), nil},
		{rename("xy", "xz"), errno(api.ErrArg), nil}, // as its event: ahead of what is not there
	} {
		c := some(t)
		if l, r := change.Of(c, x.s); !sameEvents(l, x.l) || plain(r) != plain(x.r) {
			t.Errorf("%v: %v, %v, not %v, %v", x.s, l, r, x.l, x.r)
		}
		do(t, c, x.s)
	}
}

// A row may clash with four others, one in each set; they go by their keys.
func TestReplaceOfFour(t *testing.T) {
	c := of(t, create("t", ints(1, "aBCD", []int{0}, []int{1}, []int{2}, []int{3})))
	for _, row := range [][]api.Value{nums(9, 1, 1, 1), nums(7, 2, 2, 2), nums(5, 3, 3, 3), nums(3, 4, 4, 4), nums(1, 5, 5, 5)} {
		do(t, c, insert("t", row))
	}
	x := replace("t", nums(5, 1, 2, 5))
	l, r := change.Of(c, x)
	want := []api.Event{went("t", nums(1, 5, 5, 5)), went("t", nums(5, 3, 3, 3)), went("t", nums(7, 2, 2, 2)), went("t", nums(9, 1, 1, 1)), came("t", nums(5, 1, 2, 5))}
	if !sameEvents(l, want) || !change.SameReply(r, many(5)) {
		t.Error(l, r)
	}
	do(t, c, x)
	if r := do(t, c, scan("t", nil, 100)); !change.SameReply(r, rows(nums(3, 4, 4, 4), nums(5, 1, 2, 5))) {
		t.Error(r)
	}
}

// A full table takes no row more; but where rows go for it, or it is left out, nothing is refused.
func TestFullTable(t *testing.T) {
	c := of(t, create("t", two()))
	for n := range int64(400) {
		if r := change.Do(c, insert("t", nums(1000-n, 1+n))); !change.SameReply(r, many(1)) {
			t.Fatal(n, r)
		}
	}
	for _, x := range []struct {
		s api.Stmt
		r api.Reply
	}{
		{insert("t", nums(1, 999)), errno(api.ErrLong)},
		{insert("t", nums(1, 1)), errno(api.ErrTaken)},
		{insert("t", nums(1, 40000)), errno(api.ErrSize)},
		{ignore("t", nums(1, 999)), errno(api.ErrLong)},
		{ignore("t", nums(1, 0)), errno(api.ErrLong)},
		{ignore("t", nums(1, 1)), many(0)},
		{ignore("t", nums(1000, 999)), many(0)},
		{ignore("t", nums(1000, 40000)), errno(api.ErrSize)},
		{replace("t", nums(1, 999)), errno(api.ErrLong)},
		{replace("t", nums(1, 0)), errno(api.ErrLong)},
		{replace("t", nums(1, 40000)), errno(api.ErrSize)},
		{replace("t", nums(1000, 0)), many(2)},
		{replace("t", nums(1000, 1)), many(2)},
		{update("t", nums(1000), set("a", 1)), many(1)},
		{update("t", nums(1000), set("a", 2)), many(0)},
		{replace("t", nums(999, 1)), many(3)},
		{ignore("t", nums(2, 2)), many(1)},
		{ignore("t", nums(3, 0)), errno(api.ErrLong)},
		{remove("t", nums(2)), many(1)},
		{insert("t", nums(3, 0)), many(1)},
		{replace("t", nums(4, 0)), errno(api.ErrLong)},
	} {
		if r := do(t, c, x.s); plain(r) != plain(x.r) {
			t.Errorf("%v: %v, not %v", x.s, r, x.r)
		}
	}
	r := do(t, c, scan("t", nums(0), 100))
	if len(r.Rows) != 100 || !slices.Equal(r.Rows[0], nums(3, 0)) || !slices.Equal(r.Rows[99], nums(699, 302)) {
		t.Error(len(r.Rows))
	}
	if r := do(t, c, scan("t", nums(990), 100)); len(r.Rows) != 10 {
		t.Error(len(r.Rows))
	}
}

// Twelve tables are the most; a name that is taken is told of ahead of that.
func TestTwelveTables(t *testing.T) {
	c := catalog.New()
	for n := range 12 {
		do(t, c, create(fmt.Sprint("t", n), one()))
	}
	for _, x := range []struct {
		s api.Stmt
		r api.Reply
	}{
		{create("t12", one()), errno(api.ErrLong)},
		{create("t3", one()), errno(api.ErrTaken)},
		{drop("t12"), errno(api.ErrNone)},
		{api.Stmt{Kind: api.StmtRename, Names: [][2]string{{"t3", "t12"}, {"t4", "t3"}}}, many(0)},
		{create("t4", one()), errno(api.ErrLong)},
		{drop("t12"), many(0)},
		{create("t4", one()), many(0)},
	} {
		if r := do(t, c, x.s); plain(r) != plain(x.r) {
			t.Errorf("%v: %v, not %v", x.s, r, x.r)
		}
	}
}

// A Key has up to four columns, of all types, in its own order.
func TestWideKey(t *testing.T) {
	s := api.Schema{
		Columns: []api.Column{{Name: "a", Type: api.TypeBytes, Size: 200}, {Name: "b", Type: api.TypeBool}, {Name: "c", Type: api.TypeUint, Size: 8}, {Name: "d", Type: api.TypeInt, Size: 8}},
		Key:     []int{3, 1, 0, 2},
	}
	c := of(t, create("t", s))
	var l [][]api.Value
	for _, d := range []int64{math.MinInt64, -1, 0, math.MaxInt64} {
		for b := range int64(2) {
			for _, a := range []string{"", "a", strings.Repeat("\xff", 200)} {
				l = append(l, []api.Value{text(a), truth(b), uns(math.MaxUint64), num(d)})
			}
		}
	}
	for n := range l {
		do(t, c, insert("t", l[(n*5+3)%len(l)]))
	}
	for n, row := range l {
		key := at(row, s.Key)
		if r := do(t, c, get("t", key)); plain(r) != plain(rows(row)) {
			t.Error(n, r)
		}
		for many := range 5 {
			r := do(t, c, scan("t", key[:many], 100))
			first := n / 3 * 3 // the first one of the same beginning
			switch many {
			case 0:
				first = 0
			case 1:
				first = n / 6 * 6
			case 3, 4:
				first = n
			}
			if plain(r) != plain(rows(l[first:]...)) {
				t.Error(n, many, len(r.Rows))
			}
		}
		do(t, c, get("t", key[:3]))
		do(t, c, scan("t", append(key, uns(1)), 1))
	}
	for _, row := range l {
		if r := do(t, c, remove("t", at(row, s.Key))); r.Many != 1 {
			t.Error(row, r)
		}
	}
}

// What is handed in is neither changed nor kept, nor what stands behind it.
func TestNothingIsShared(t *testing.T) {
	given := func() []api.Stmt {
		behind := text("behind")
		room := func(row []api.Value) []api.Value { return append(row, behind)[:len(row)] }
		s := api.Schema{Columns: append(two().Columns, api.Column{Name: "behind"})[:2], Key: append([]int{0}, 99)[:1], Uniques: append([][]int{append([]int{1}, 99)[:1]}, []int{99})[:1]}
		turn := update("t", room(nums(1)), append([]api.Set{set("b", 7), set("a", 3)}, set("behind", 9))[:2]...)
		moves := rename("tu", "uv")
		moves.Names = moves.Names[:1]
		return []api.Stmt{
			create("t", s), insert("t", room(nums(1, 5))), ignore("t", room(nums(2, 6))), turn, replace("t", room(nums(2, 9))),
			insert("t", room(nums(4, 4))), remove("t", room(nums(4))), moves, get("u", room(nums(2))), scan("u", room(nums(1)), 9), drop("w"),
		}
	}
	c, twin := of(t, create("w", one())), of(t, create("w", one()))
	asGiven := fmt.Sprint(spread(given()))
	for _, s := range given() {
		do(t, twin, s)
		l, told := change.Of(c, s)
		before := c.Copy()
		for _, x := range l { // whoever has the answer may write into it
			spoilEvent(x)
		}
		spoilRows(told.Rows...)
		if !catalog.Same(c, before) {
			t.Errorf("%v: what was told is the catalog's own", s)
		}
		r := change.Do(c, s)
		spoilRows(r.Rows...)
		if !catalog.Same(c, twin) {
			t.Errorf("%v: what was told is the statement's own", s)
		}
		spoilStmt(s)
		if !catalog.Same(c, twin) {
			t.Errorf("%v: the statement is kept", s.Kind)
		}
	}
	l := given()
	c = of(t, create("w", one()))
	for _, s := range l {
		change.Of(c, s)
		change.Do(c, s)
		for range change.Tables(s) {
		}
		change.Check(s)
		change.Reads(s)
	}
	if is := fmt.Sprint(spread(l)); is != asGiven {
		t.Errorf("%v, not %v", is, asGiven)
	}
}

// spread tells all that statements have, and what stands behind that.
func spread(l []api.Stmt) (all []any) {
	for _, s := range l {
		all = append(all, s, s.Key[:cap(s.Key)], s.Row[:cap(s.Row)], s.Sets[:cap(s.Sets)], s.Names[:cap(s.Names)])
		all = append(all, s.Schema.Columns[:cap(s.Schema.Columns)], s.Schema.Key[:cap(s.Schema.Key)])
		for _, places := range s.Schema.Uniques[:cap(s.Schema.Uniques)] {
			all = append(all, places[:cap(places)])
		}
	}
	return all
}

func spoilRows(l ...[]api.Value) {
	for _, row := range l {
		row = row[:cap(row)]
		for n := range row {
			row[n] = text("spoilt")
		}
	}
}

func spoilSchema(s api.Schema) {
	for n := range s.Columns {
		s.Columns[n] = api.Column{Name: "spoilt"}
	}
	for _, places := range append([][]int{s.Key}, s.Uniques...) {
		for n := range places {
			places[n] = 77
		}
	}
	for n := range s.Uniques {
		s.Uniques[n] = nil
	}
}

func spoilEvent(x api.Event) {
	spoilRows(x.Old, x.New)
	spoilSchema(x.Schema)
	for n := range x.Names {
		x.Names[n] = [2]string{"spoilt", "spoilt"}
	}
}

func spoilStmt(s api.Stmt) {
	spoilRows(s.Key, s.Row)
	spoilSchema(s.Schema)
	for n := range s.Sets {
		s.Sets[n] = set("spoilt", 1)
	}
	for n := range s.Names {
		s.Names[n] = [2]string{"spoilt", "spoilt"}
	}
}

// No two things that are told share anything: what is written into one, or behind it, is not seen in another one.
func TestAnswersAreApart(t *testing.T) {
	for _, x := range []api.Stmt{scan("t", nil, 9), scan("v", nil, 9), get("t", nums(1)), replace("t", nums(1, 6)), replace("v", nums(2, 4, 1)), update("t", nums(1), set("b", 9)), remove("t", nums(1)), create("x", three()), rename("tx")} {
		c := some(t)
		l, r := change.Of(c, x)
		again, others := change.Of(c, x)
		var lists [][]api.Value
		for _, e := range l {
			lists = append(lists, e.Old, e.New)
		}
		lists = append(lists, r.Rows...)
		want := plain(api.Reply{Rows: lists})
		for n := range lists {
			if len(lists[n]) == 0 {
				continue
			}
			was := slices.Clone(lists[n])
			spoilRows(lists[n])
			copy(lists[n], was)
			if plain(api.Reply{Rows: lists}) != want {
				t.Errorf("%v: %v", x, lists)
			}
		}
		for _, e := range l {
			spoilEvent(e)
		}
		spoilRows(r.Rows...)
		wantEvents, wantReply := says(some(t), x)
		if !sameEvents(again, wantEvents) || plain(others) != plain(wantReply) {
			t.Errorf("%v: %v, %v", x, again, others)
		}
	}
}

// Empty lists mean the same as none.
func TestEmptyLists(t *testing.T) {
	full := func(s api.Stmt) api.Stmt {
		s.Key, s.Row = append([]api.Value{}, s.Key...), append([]api.Value{}, s.Row...)
		s.Sets, s.Names = append([]api.Set{}, s.Sets...), append([][2]string{}, s.Names...)
		s.Schema.Columns, s.Schema.Key = append([]api.Column{}, s.Schema.Columns...), append([]int{}, s.Schema.Key...)
		s.Schema.Uniques = append([][]int{}, s.Schema.Uniques...)
		return s
	}
	a, b := catalog.New(), catalog.New()
	for _, s := range []api.Stmt{
		create("t", one()), insert("t", nums(1)), ignore("t", nums(2)), replace("t", nums(2)), update("t", nums(1), set("a", 3)), scan("t", nil, 9), get("t", nums(3)),
		get("t", nil), insert("t", nil), create("u", two()), rename("tu", "ut"), remove("u", nums(2)), drop("t"), create("w", api.Schema{}), rename(), update("u", nums(1)),
	} {
		if change.Check(s) != change.Check(full(s)) {
			t.Error(s)
		}
		if x, y := do(t, a, s), do(t, b, full(s)); plain(x) != plain(y) || !catalog.Same(a, b) {
			t.Error(s, x, y)
		}
	}
}

// P14.3: what follows. All catalogs that there are of one table of a few rows, or none, and all that is done to each.
func TestAllOfASmallShape(t *testing.T) {
	s := ints(1, "aB", []int{0}, []int{1})
	l := []api.Stmt{create("t", s), create("u", s), drop("t"), rename("tt"), scan("t", nil, 1), scan("t", nil, 2), scan("t", nil, 3), scan("u", nil, 3), get("t", nil)}
	for a := int64(0); a <= 4; a++ {
		l = append(l, get("t", nums(a)), remove("t", nums(a)))
		for limit := range 4 {
			l = append(l, scan("t", nums(a), limit))
		}
		for b := int64(0); b <= 4; b++ {
			l = append(l, update("t", nums(a), set("a", b)), update("t", nums(a), set("b", b)), get("t", nums(a, b)), scan("t", nums(a, b), 1))
			for c := int64(0); c <= 3; c++ {
				l = append(l, update("t", nums(a), set("a", b), set("b", c)))
			}
			l = append(l, insert("t", nums(a, b)), ignore("t", nums(a, b)), replace("t", nums(a, b)))
		}
	}
	small := func(c *catalog.Catalog) bool { // of keys 1 to 3, and b up to 3, and without u
		_, u := c.Table("u")
		b, _ := c.Table("t")
		for _, row := range rowsOf(b) {
			if row[0].Int > 3 || row[1].Int > 3 {
				return false
			}
		}
		return !u
	}
	shape := func(c *catalog.Catalog) string {
		b, is := c.Table("t")
		return fmt.Sprint(is, rowsOf(b))
	}
	todo := []*catalog.Catalog{catalog.New()}
	seen := map[string]*catalog.Catalog{shape(todo[0]): todo[0]}
	for len(todo) > 0 {
		c := todo[0]
		todo = todo[1:]
		before := c.Copy()
		for _, x := range l {
			then := c.Copy()
			do(t, then, x)
			if _, is := seen[shape(then)]; !is && small(then) {
				seen[shape(then)] = then
				todo = append(todo, then)
			}
		}
		if !catalog.Same(c, before) {
			t.Fatal(shape(c))
		}
	}
	if len(seen) != 1+1+3*4+3*(16-3)+(1+9+18+6) { // no table; 0, 1, 2 rows, 3 rows, no two of one b but null
		t.Error(len(seen))
	}
}

// life does to a catalog what bytes say: of each statement its Kind, and what it names.
func life(t testing.TB, bytes []byte) {
	t.Helper()
	next := func(below int) int {
		if len(bytes) == 0 {
			return 0
		}
		c := bytes[0]
		bytes = bytes[1:]
		return int(c) % below
	}
	schemas := []api.Schema{one(), two(), three(), ints(1, "aBCD", []int{0}, []int{1}, []int{2}, []int{3, 1})}
	c := catalog.New()
	any := func() string { return string(rune('a' + next(15))) }
	val := func() api.Value {
		switch next(40) {
		case 0:
			return uns(1)
		case 1:
			return text("a")
		case 2:
			return num(40000)
		case 3:
			return api.Value{Kind: 9}
		}
		return nums(int64(next(8)))[0]
	}
	some := func(n int) (l []api.Value) { // mostly so many
		if next(40) == 0 {
			n = next(10)
		}
		for range n {
			l = append(l, val())
		}
		return l
	}
	there := func() (string, api.Schema, *table.Table) { // mostly a table that is there
		l := slices.Collect(maps.Values(maps.Collect(c.Names())))
		slices.Sort(l)
		name := any()
		if len(l) > 0 && next(20) > 0 {
			name = l[next(len(l))]
		}
		b, _ := c.Table(name)
		return name, b.Schema(), b
	}
	for len(bytes) > 0 {
		name, s, b := there()
		key := func() []api.Value { // mostly that of one of its rows
			if l := rowsOf(b); len(l) > 0 && next(4) > 0 {
				return at(l[next(len(l))], s.Key)
			}
			return some(len(s.Key))
		}
		var x api.Stmt
		switch next(20) {
		case 0:
			x = create(any(), schemas[next(4)])
		case 1:
			x = drop(name)
			if next(4) > 0 {
				x = drop(any())
			}
		case 2:
			x = rename(name+any(), any()+name)
		case 3, 4:
			x = get(name, key())
		case 5, 6:
			l := key()
			x = scan(name, l[:next(len(l)+1)], next(102))
		case 7, 8, 9:
			x = update(name, key())
			for range 1 + next(3) {
				x.Sets = append(x.Sets, api.Set{Column: string(rune('a' + next(len(s.Columns)+1))), Value: val()})
			}
		case 10, 11:
			x = remove(name, key())
		case 12, 13, 14:
			x = replace(name, some(len(s.Columns)))
		case 15, 16:
			x = ignore(name, some(len(s.Columns)))
		case 17:
			x = api.Stmt{Kind: api.StmtKind(next(13)), Table: name, Row: some(2), Limit: next(2)}
		default:
			x = insert(name, some(len(s.Columns)))
		}
		do(t, c, x)
		if e, want := change.Check(x), mayBe(x); (e == api.OK) != want {
			t.Fatal(x, e)
		}
	}
}

func TestLives(t *testing.T) {
	for seed := range int64(300) {
		r := rand.New(rand.NewSource(seed))
		bytes := make([]byte, 1500)
		r.Read(bytes)
		life(t, bytes)
	}
}

func FuzzAnyLife(f *testing.F) {
	f.Add([]byte{0, 0, 0, 1, 1, 1, 2, 18, 1, 1, 3, 1, 4})
	f.Add([]byte("\x01a\x01\x00b\x01\x01c\x01\x0a\x01\x02\x03\x00\x03abcdefg"))
	f.Fuzz(func(t *testing.T, bytes []byte) { life(t, bytes[:min(len(bytes), 3000)]) })
}
