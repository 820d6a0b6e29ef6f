package catalog_test

import (
	"fmt"
	"iter"
	"maps"
	"math"
	"math/rand"
	"slices"
	"strings"
	"testing"

	"swingbridge/api"
	"swingbridge/catalog"
	"swingbridge/event"
	"swingbridge/key"
	"swingbridge/schema"
	"swingbridge/table"
)

func null() api.Value         { return api.Value{} }
func num(n int64) api.Value   { return api.Value{Kind: api.ValueInt, Int: n} }
func uns(n uint64) api.Value  { return api.Value{Kind: api.ValueUint, Uint: n} }
func truth(n int64) api.Value { return api.Value{Kind: api.ValueBool, Int: n} }
func text(s string) api.Value { return api.Value{Kind: api.ValueBytes, Bytes: s} }

// nums is a row of numbers with a sign; 0 stands for null.
func nums(l ...int64) (row []api.Value) {
	for _, n := range l {
		if n == 0 {
			row = append(row, null())
		} else {
			row = append(row, num(n))
		}
	}
	return row
}

// ints is a schema of columns of so many bytes; those named in capitals may be null.
func ints(size int, names string, keys []int, uniques ...[]int) api.Schema {
	s := api.Schema{Key: keys, Uniques: uniques}
	for _, name := range strings.Split(names, "") {
		c := api.Column{Name: strings.ToLower(name), Type: api.TypeInt, Size: size, Null: name != strings.ToLower(name)}
		s.Columns = append(s.Columns, c)
	}
	return s
}

// one, two and three are schemas of so many columns; two has a unique set, too.
func one() api.Schema   { return ints(1, "a", []int{0}) }
func two() api.Schema   { return ints(2, "aB", []int{0}, []int{1}) }
func three() api.Schema { return ints(1, "aBc", []int{2, 0}, []int{1}, []int{0, 1}) }

func came(table string, row []api.Value) api.Event {
	return api.Event{Kind: api.EventInsert, Table: table, New: row}
}

func turned(table string, was, is []api.Value) api.Event {
	return api.Event{Kind: api.EventUpdate, Table: table, Old: was, New: is}
}

func went(table string, row []api.Value) api.Event {
	return api.Event{Kind: api.EventDelete, Table: table, Old: row}
}

func made(table string, s api.Schema) api.Event {
	return api.Event{Kind: api.EventCreate, Table: table, Schema: s}
}

func dropped(table string) api.Event { return api.Event{Kind: api.EventDrop, Table: table} }

// renamed is a rename; each of its words has the two names of a pair, one letter each.
func renamed(pairs ...string) api.Event {
	x := api.Event{Kind: api.EventRename}
	for _, p := range pairs {
		x.Names = append(x.Names, [2]string{p[:1], p[1:]})
	}
	return x
}

// back is the event that undoes one.
func back(x api.Event) api.Event {
	switch x.Kind {
	case api.EventInsert:
		return went(x.Table, x.New)
	case api.EventUpdate:
		return turned(x.Table, x.New, x.Old)
	case api.EventDelete:
		return came(x.Table, x.Old)
	case api.EventCreate:
		return dropped(x.Table)
	}
	y := api.Event{Kind: x.Kind}
	for _, pair := range x.Names {
		y.Names = append(y.Names, [2]string{pair[1], pair[0]})
	}
	return y
}

// rows are a table as the words say it; they are never written over.
type rows struct {
	s    api.Schema
	rows [][]api.Value
}

func (r rows) key(row []api.Value) string {
	k, e := key.Encode(pick(row, r.s.Key)...)
	if e != api.OK {
		panic(e)
	}
	return k
}

func pick(row []api.Value, places []int) (l []api.Value) {
	for _, at := range places {
		l = append(l, row[at])
	}
	return l
}

func (r rows) clash(a, b []api.Value) bool {
	return slices.ContainsFunc(append([][]int{r.s.Key}, r.s.Uniques...), func(places []int) bool {
		vals := pick(a, places)
		return !slices.Contains(vals, null()) && slices.Equal(vals, pick(b, places))
	})
}

func (r rows) has(row []api.Value) bool {
	return slices.ContainsFunc(r.rows, func(x []api.Value) bool { return slices.Equal(x, row) })
}

func (r rows) without(row []api.Value) rows {
	var l [][]api.Value
	for _, x := range r.rows {
		if !slices.Equal(x, row) {
			l = append(l, x)
		}
	}
	return rows{r.s, l}
}

// with are the rows and one more, as a table of them lets it come.
func (r rows) with(row []api.Value, most int) (rows, api.Errno) {
	if e := schema.Row(r.s, row...); e != api.OK {
		return r, e
	}
	for _, x := range r.rows {
		if r.clash(x, row) {
			return r, api.ErrTaken
		}
	}
	if len(r.rows) >= most {
		return r, api.ErrLong
	}
	l := append(slices.Clone(r.rows), row)
	slices.SortFunc(l, func(a, b []api.Value) int { return strings.Compare(r.key(a), r.key(b)) })
	return rows{r.s, l}, api.OK
}

// model is a catalog as the words say it; it is never written over.
type model map[string]rows

func (m model) put(name string, r rows) model {
	c := maps.Clone(m)
	c[name] = r
	return c
}

func (m model) names() []string { return slices.Sorted(maps.Keys(m)) }

// do is the model behind an event, and what is told of it.
func (m model) do(x api.Event) (model, api.Errno) {
	if e := event.Check(x); e != api.OK {
		return m, e
	}
	r, is := m[x.Table]
	switch x.Kind {
	case api.EventRename:
		return m.rename(x.Names)
	case api.EventCreate:
		if is {
			return m, api.ErrTaken
		}
		if len(m) >= 12 {
			return m, api.ErrLong
		}
		return m.put(x.Table, rows{s: x.Schema}), api.OK
	}
	if !is {
		return m, api.ErrNone
	}
	if x.Kind == api.EventDrop {
		c := maps.Clone(m)
		delete(c, x.Table)
		return c, api.OK
	}
	if x.Kind != api.EventInsert && !r.has(x.Old) {
		return m, api.ErrStale
	}
	e := api.OK
	switch x.Kind {
	case api.EventInsert:
		r, e = r.with(x.New, 400)
	case api.EventUpdate:
		r, e = r.without(x.Old).with(x.New, 400)
	case api.EventDelete:
		r = r.without(x.Old)
	}
	if e != api.OK {
		return m, e
	}
	return m.put(x.Table, r), api.OK
}

// rename says of each name which tables have it then.
func (m model) rename(names [][2]string) (model, api.Errno) {
	firsts := map[string]int{}
	for _, pair := range names {
		firsts[pair[0]]++
	}
	for _, many := range firsts {
		if many > 1 {
			return m, api.ErrArg
		}
	}
	for name := range firsts {
		if _, is := m[name]; !is {
			return m, api.ErrNone
		}
	}
	then := map[string][]string{}
	for name := range m {
		called := name
		for _, pair := range names {
			if pair[0] == name {
				called = pair[1]
			}
		}
		then[called] = append(then[called], name)
	}
	c := model{}
	for name, those := range then {
		if len(those) > 1 {
			return m, api.ErrTaken
		}
		c[name] = m[those[0]]
	}
	return c, api.OK
}

// all is the model behind several events.
func (m model) all(l []api.Event) (model, int, api.Errno) {
	next := m
	for n, x := range l {
		var e api.Errno
		if next, e = next.do(x); e != api.OK {
			return m, n, e
		}
	}
	return next, 0, api.OK
}

// same asks whether two models have the same tables.
func (m model) same(other model) bool {
	return maps.EqualFunc(m, other, func(a, b rows) bool {
		return schema.Same(a.s, b.s) && slices.EqualFunc(a.rows, b.rows, slices.Equal)
	})
}

type numbered struct {
	n    int
	name string
}

func collect(over iter.Seq2[int, string]) (l []numbered) {
	for n, name := range over {
		l = append(l, numbered{n, name})
	}
	return l
}

// number gives each name its number.
func number(names []string) (l []numbered) {
	for n, name := range names {
		l = append(l, numbered{n, name})
	}
	return l
}

func rowsOf(t *table.Table) (l [][]api.Value) {
	for _, row := range t.Rows("") {
		l = append(l, row)
	}
	return l
}

// hold holds a catalog against a model.
func hold(t testing.TB, c *catalog.Catalog, m model) {
	t.Helper()
	if got, want := collect(c.Names()), number(m.names()); !slices.Equal(got, want) {
		t.Fatalf("%v, not %v", got, want)
	}
	for name, r := range m {
		b, is := c.Table(name)
		if b == nil || !is {
			t.Fatal(name, b, is)
		}
		if !schema.Same(b.Schema(), r.s) {
			t.Fatalf("%s: %v, not %v", name, b.Schema(), r.s)
		}
		if got := rowsOf(b); !slices.EqualFunc(got, r.rows, slices.Equal) {
			t.Fatalf("%s: %v, not %v", name, got, r.rows)
		}
	}
}

// do does an event to both, and holds the answers.
func do(t testing.TB, c *catalog.Catalog, m model, x api.Event) model {
	t.Helper()
	before := c.Copy()
	next, want := m.do(x)
	if e := c.Do(x); e != want {
		t.Fatalf("%v: %v, not %v", x, e, want)
	}
	if same := m.same(next); catalog.Same(c, before) != same || catalog.Same(before, c) != same {
		t.Fatalf("%v: is it the same? Not %v", x, same)
	}
	return next
}

// doAll does several events together to both, and holds the answers.
func doAll(t testing.TB, c *catalog.Catalog, m model, l ...api.Event) model {
	t.Helper()
	next, at, want := m.all(l)
	if n, e := c.All(l...); n != at || e != want {
		t.Fatalf("%v: %d, %v, not %d, %v", l, n, e, at, want)
	}
	return next
}

// of makes a catalog by events, each of which is done.
func of(t testing.TB, l ...api.Event) (*catalog.Catalog, model) {
	t.Helper()
	c, m := catalog.New(), model{}
	for _, x := range l {
		if e := c.Do(x); e != api.OK {
			t.Fatal(x, e)
		}
		m, _ = m.do(x)
	}
	hold(t, c, m)
	return c, m
}

// some is a catalog of three tables, two of which have rows.
func some(t testing.TB) (*catalog.Catalog, model) {
	t.Helper()
	return of(t, made("t", two()), came("t", nums(1, 5)), came("t", nums(2, 6)), came("t", nums(3, 0)),
		made("u", one()), came("u", nums(7)), made("v", three()))
}

// nones are catalogs that are not there.
func nones() []*catalog.Catalog {
	var none *catalog.Catalog
	return []*catalog.Catalog{nil, {}, none.Copy()}
}

// wrong are events that may not be.
func wrong() []api.Event {
	long := strings.Repeat("t", 25)
	return []api.Event{
		{}, {Table: "t"}, {Kind: 7, Table: "t"}, {Kind: -1, Table: "t"}, {Kind: math.MaxInt, Table: "t"}, {Kind: math.MinInt},
		came("", nums(1)), came("T", nums(1, 1)), came(long, nums(1)), came("\xff", nums(1)),
		came("t", nil), came("u", nil), came("t", make([]api.Value, 9)), came("t", []api.Value{{Kind: 9}}), came("t", []api.Value{num(9), {Int: 1}}),
		came("t", []api.Value{text(strings.Repeat("a", 201)), null()}),
		turned("t", nums(1, 5), nil), turned("t", nil, nums(9, 9)), turned("t", nums(1, 5), nums(9)), turned("t", nums(1), nums(1, 5)),
		turned("t", nums(1, 5), nums(1, 5, 5)), turned("t", nums(1, 5), []api.Value{num(1), {Kind: -1}}), turned("t", []api.Value{num(1), {Kind: -1}}, nums(9, 9)),
		went("t", nil), went("", nums(1, 5)), went("t", []api.Value{num(1), {Kind: 5}}), went("t", make([]api.Value, 100000)),
		{Kind: api.EventInsert, Table: "t", New: nums(9, 9), Old: nums(9, 9)}, {Kind: api.EventInsert, Table: "t", New: nums(9, 9), Schema: one()},
		{Kind: api.EventDelete, Table: "t", Old: nums(1, 5), New: nums(1, 5)}, {Kind: api.EventDelete, Table: "t", Old: nums(1, 5), Names: [][2]string{{"t", "w"}}},
		{Kind: api.EventInsert, Table: "t", Old: nums(1, 5)}, {Kind: api.EventDelete, Table: "t", New: nums(1, 5)},
		made("", one()), made("w", api.Schema{}), made("t", api.Schema{}), made("W", one()), made("w", ints(3, "a", []int{0})), made("w", ints(1, "A", []int{0})), made("w", ints(1, "aa", []int{0})),
		{Kind: api.EventCreate, Table: "w", Schema: one(), New: nums(1)},
		dropped(""), dropped("T"), dropped(long), {Kind: api.EventDrop, Table: "t", Schema: two()}, {Kind: api.EventDrop, Table: "t", Old: nums(1, 5)},
		renamed(), renamed("tw", "uw", "vw", "wx", "xy"), renamed("t"), renamed("tW"), renamed("Tw"), renamed("tw", "uU"), {Kind: api.EventRename, Table: "t", Names: [][2]string{{"t", "w"}}},
		renamed("tw", "tx"), renamed("tw", "tw"), renamed("tt", "tt"), renamed("tu", "ut", "tw"), renamed("wt", "wu"), renamed("tw", "ux", "vy", "uz"), renamed("tw", "yz", "yz"),
	}
}

// P13.1: New, Do.

func TestExamples(t *testing.T) {
	c := catalog.New()
	for n, x := range []struct {
		x api.Event
		e api.Errno
	}{
		{made("t", one()), api.OK},
		{made("u", one()), api.OK},
		{renamed("tu", "ut"), api.OK},
		{renamed("tu"), api.ErrTaken},
		{dropped("w"), api.ErrNone},
		{came("t", nums(1)), api.OK},
		{went("t", nums(2)), api.ErrStale},
	} {
		if e := c.Do(x.x); e != x.e {
			t.Error(n, e)
		}
	}
	if n, e := c.All(dropped("t"), dropped("t")); n != 1 || e != api.ErrNone {
		t.Error(n, e)
	}
	if b, is := c.Table("t"); !is || b.Len() != 1 {
		t.Error(is)
	}
}

func TestNew(t *testing.T) {
	c, other := catalog.New(), catalog.New()
	if c == nil || c == other || !catalog.Same(c, other) {
		t.Fatal(c, other)
	}
	hold(t, c, model{})
	do(t, c, model{}, made("t", one()))
	hold(t, other, model{})
	if catalog.Same(c, other) {
		t.Error("both have what one has")
	}
}

// What is not there is told of ahead of any event.
func TestNone(t *testing.T) {
	for n, c := range nones() {
		for _, x := range append(wrong(), made("t", one()), dropped("t")) {
			if e := c.Do(x); e != api.ErrNil {
				t.Error(n, x, e)
			}
			if at, e := c.All(x); at != 0 || e != api.ErrNil {
				t.Error(n, x, at, e)
			}
			if at, e := c.All(made("w", one()), x); at != 0 || e != api.ErrNil {
				t.Error(n, x, at, e)
			}
		}
		if at, e := c.All(); at != 0 || e != api.ErrNil {
			t.Error(n, at, e)
		}
		if b, is := c.Table("t"); b != nil || is {
			t.Error(n, b, is)
		}
		over := c.Names()
		if over == nil || collect(over) != nil || collect(over) != nil || c.Copy() != nil {
			t.Error(n)
		}
		for _, other := range nones() {
			if !catalog.Same(c, other) {
				t.Error(n)
			}
		}
		full, _ := some(t)
		for _, other := range []*catalog.Catalog{catalog.New(), full} {
			if catalog.Same(c, other) || catalog.Same(other, c) {
				t.Error(n)
			}
		}
	}
}

// What may not be is told of whatever the catalog has.
func TestWrongEvents(t *testing.T) {
	c, m := some(t)
	for _, x := range wrong() {
		if e := c.Do(x); e != api.ErrArg {
			t.Errorf("%.200v: %v", x, e)
		}
		if e := catalog.New().Do(x); e != api.ErrArg {
			t.Errorf("%.200v: %v", x, e)
		}
		if n, e := c.All(came("u", nums(8)), x, went("u", nums(9))); n != 1 || e != api.ErrArg {
			t.Errorf("%.200v: %d, %v", x, n, e)
		}
		hold(t, c, m)
	}
}

// Each thing that is told, by name, of a catalog of t: (1, 5), (2, 6), (3, null); u: (7); v without rows.
func TestDo(t *testing.T) {
	for n, x := range []struct {
		x api.Event
		e api.Errno
	}{
		{came("t", nums(4, 7)), api.OK},
		{came("t", nums(4, 0)), api.OK},
		{came("v", nums(1, 0, 1)), api.OK},
		{came("w", nums(4, 7)), api.ErrNone},
		{came("w", nums(4)), api.ErrNone}, // ahead of what no table has
		{came("t", nums(4)), api.ErrCount},
		{came("t", nums(4, 7, 7)), api.ErrCount},
		{came("t", nums(0, 5)), api.ErrNull},
		{came("t", []api.Value{uns(1), num(5)}), api.ErrType},
		{came("t", []api.Value{num(4), text("7")}), api.ErrType},
		{came("t", []api.Value{num(4), truth(1)}), api.ErrType},
		{came("t", nums(4, 40000)), api.ErrSize},
		{came("u", nums(128)), api.ErrSize},
		{came("t", nums(1, 40000)), api.ErrSize}, // ahead of what is taken
		{came("t", nums(1, 7)), api.ErrTaken},
		{came("t", nums(1, 5)), api.ErrTaken},
		{came("t", nums(4, 6)), api.ErrTaken},
		{came("t", nums(3, 0)), api.ErrTaken},

		{turned("t", nums(1, 5), nums(1, 7)), api.OK},
		{turned("t", nums(1, 5), nums(1, 5)), api.OK},
		{turned("t", nums(1, 5), nums(1, 0)), api.OK},
		{turned("t", nums(1, 5), nums(4, 5)), api.OK},
		{turned("t", nums(1, 5), nums(-4, 7)), api.OK},
		{turned("t", nums(3, 0), nums(3, 7)), api.OK},
		{turned("w", nums(1, 5), nums(1, 7)), api.ErrNone},
		{turned("t", nums(1, 6), nums(1, 7)), api.ErrStale},
		{turned("t", nums(1, 0), nums(1, 7)), api.ErrStale},
		{turned("t", nums(2, 5), nums(1, 7)), api.ErrStale},
		{turned("t", nums(3, 5), nums(1, 7)), api.ErrStale},
		{turned("t", nums(4, 7), nums(4, 7)), api.ErrStale},
		{turned("t", nums(5, 1), nums(1, 5)), api.ErrStale},
		{turned("t", nums(1), nums(1)), api.ErrStale},
		{turned("t", nums(1, 5, 5), nums(1, 7, 7)), api.ErrStale},
		{turned("t", []api.Value{uns(1), num(5)}, nums(1, 7)), api.ErrStale},
		{turned("t", []api.Value{num(1), uns(5)}, nums(1, 7)), api.ErrStale},
		{turned("t", nums(0, 5), nums(1, 7)), api.ErrStale},
		{turned("t", nums(40000, 5), nums(1, 7)), api.ErrStale},
		{turned("t", nums(1, 7), nums(0, 5)), api.ErrStale},     // ahead of what is told of the row that comes
		{turned("t", nums(1, 7), nums(2, 6)), api.ErrStale},     //
		{turned("t", nums(1, 7), nums(2, 40000)), api.ErrStale}, //
		{turned("v", nums(1, 1, 1), nums(1, 1, 1)), api.ErrStale},
		{turned("t", nums(1, 5), nums(0, 5)), api.ErrNull},
		{turned("t", nums(1, 5), []api.Value{num(1), text("5")}), api.ErrType},
		{turned("t", nums(1, 5), nums(-40000, 5)), api.ErrSize},
		{turned("t", nums(1, 5), nums(2, 40000)), api.ErrSize}, // ahead of what is taken
		{turned("t", nums(1, 5), nums(2, 5)), api.ErrTaken},
		{turned("t", nums(1, 5), nums(1, 6)), api.ErrTaken},
		{turned("t", nums(1, 5), nums(2, 6)), api.ErrTaken},
		{turned("t", nums(3, 0), nums(1, 0)), api.ErrTaken},

		{went("t", nums(1, 5)), api.OK},
		{went("t", nums(3, 0)), api.OK},
		{went("u", nums(7)), api.OK},
		{went("w", nums(1, 5)), api.ErrNone},
		{went("t", nums(4, 7)), api.ErrStale},
		{went("t", nums(1, 6)), api.ErrStale},
		{went("t", nums(1, 0)), api.ErrStale},
		{went("t", nums(3, 3)), api.ErrStale},
		{went("t", nums(5, 1)), api.ErrStale},
		{went("t", nums(1)), api.ErrStale},
		{went("t", nums(1, 5, 1)), api.ErrStale},
		{went("t", nums(0)), api.ErrStale},
		{went("t", nums(0, 0)), api.ErrStale},
		{went("t", []api.Value{num(1), truth(1)}), api.ErrStale},
		{went("t", []api.Value{uns(1), num(5)}), api.ErrStale},
		{went("t", nums(1, 40000)), api.ErrStale},
		{went("u", nums(1)), api.ErrStale},
		{went("v", nums(1, 1, 1)), api.ErrStale},

		{made("w", one()), api.OK},
		{made("t0_", three()), api.OK},
		{made(strings.Repeat("t", 24), two()), api.OK},
		{made("t", two()), api.ErrTaken},
		{made("t", one()), api.ErrTaken},
		{made("v", one()), api.ErrTaken},

		{dropped("t"), api.OK},
		{dropped("v"), api.OK},
		{dropped("w"), api.ErrNone},
		{dropped("tt"), api.ErrNone},

		{renamed("tw"), api.OK},
		{renamed("tt"), api.OK},
		{renamed("tu", "ut"), api.OK},
		{renamed("tu", "uv", "vt"), api.OK},
		{renamed("tu", "uw"), api.OK},
		{renamed("uw", "tu"), api.OK},
		{renamed("tt", "uu", "vv"), api.OK},
		{renamed("tx", "uy", "vz"), api.OK},
		{renamed("wx"), api.ErrNone},
		{renamed("ww"), api.ErrNone},
		{renamed("wt"), api.ErrNone}, // ahead of a name that is taken
		{renamed("tu", "wx"), api.ErrNone},
		{renamed("tw", "wx"), api.ErrNone}, // w is what t is called only then
		{renamed("tw", "uw", "xy"), api.ErrNone},
		{renamed("tu"), api.ErrTaken},
		{renamed("tu", "vw"), api.ErrTaken},
		{renamed("tw", "uw"), api.ErrTaken},
		{renamed("tw", "uw", "vw"), api.ErrTaken},
		{renamed("tu", "uu"), api.ErrTaken},
		{renamed("tt", "ut"), api.ErrTaken},
		{renamed("ut", "tt"), api.ErrTaken},
		{renamed("tu", "ut", "vt"), api.ErrTaken},
		{renamed("tu", "uv"), api.ErrTaken},
	} {
		c, m := some(t)
		if e := c.Do(x.x); e != x.e {
			t.Errorf("%d: %v: %v, not %v", n, x.x, e, x.e)
		}
		m, e := m.do(x.x)
		if e != x.e {
			t.Fatal(n, e)
		}
		hold(t, c, m)
		c, m = some(t)
		hold(t, c, do(t, c, m, x.x))
	}
}

// A table has its rows under its other name, too, and none of them when it is made anew.
func TestRowsGoWithTheirTable(t *testing.T) {
	c, m := some(t)
	for _, x := range []api.Event{
		renamed("tu", "uw", "vt"), came("u", nums(4, 7)), came("t", nums(1, 1, 1)), came("w", nums(8)), came("u", nums(5, 5)), came("v", nums(1)),
		dropped("u"), made("u", two()), came("u", nums(5, 5)), went("u", nums(1, 5)), dropped("w"), came("w", nums(9)), made("w", two()), came("w", nums(5, 5)),
	} {
		m = do(t, c, m, x)
		hold(t, c, m)
	}
	for _, name := range []string{"t", "u", "w"} {
		if b, _ := c.Table(name); b.Len() != 1 {
			t.Error(name, b.Len())
		}
	}
}

// Twelve tables are the most; a name that is taken is told of ahead of that.
func TestTables(t *testing.T) {
	c, m := catalog.New(), model{}
	for n := range 12 {
		if e := c.Do(made(fmt.Sprint("t", n), one())); e != api.OK {
			t.Fatal(n, e)
		}
		m = m.put(fmt.Sprint("t", n), rows{s: one()})
		hold(t, c, m)
	}
	for _, x := range []struct {
		x api.Event
		e api.Errno
	}{
		{made("t12", one()), api.ErrLong},
		{made("a", two()), api.ErrLong},
		{made("t0", one()), api.ErrTaken},
		{made("t11", two()), api.ErrTaken},
		{api.Event{Kind: api.EventRename, Names: [][2]string{{"t0", "t1"}, {"t1", "a"}, {"t2", "t0"}, {"t3", "b"}}}, api.OK},
		{made("t3", one()), api.ErrLong},
		{dropped("a"), api.OK},
		{made("t1", one()), api.ErrTaken},
		{made("a", two()), api.OK},
		{made("t3", one()), api.ErrLong},
	} {
		if e := c.Do(x.x); e != x.e {
			t.Error(x.x, e)
		}
		m, _ = m.do(x.x)
		hold(t, c, m)
	}
	if n, e := c.All(dropped("a"), made("t2", one()), made("t3", one())); n != 2 || e != api.ErrLong {
		t.Error(n, e)
	}
	m = doAll(t, c, m, dropped("a"), dropped("b"), made("t2", one()), made("t3", one()))
	hold(t, c, m)
}

// A full table takes no row more, but any other one for one that it has.
func TestFullTable(t *testing.T) {
	c, m := of(t, made("t", two()))
	var l []api.Event
	for n := range int64(400) {
		l = append(l, came("t", nums(1000-n, 1+n)))
	}
	m = doAll(t, c, m, l...)
	hold(t, c, m)
	for _, x := range []struct {
		x api.Event
		e api.Errno
	}{
		{came("t", nums(1, 999)), api.ErrLong},
		{came("t", nums(1, 0)), api.ErrLong},
		{came("t", nums(1, 1)), api.ErrTaken},
		{came("t", nums(1000, 999)), api.ErrTaken},
		{came("t", nums(1, 40000)), api.ErrSize},
		{turned("t", nums(1000, 1), nums(1, 999)), api.OK},
		{turned("t", nums(1, 999), nums(2, 400)), api.ErrTaken},
		{went("t", nums(1, 999)), api.OK},
		{came("t", nums(2, 1)), api.OK},
		{came("t", nums(3, 0)), api.ErrLong},
	} {
		if e := c.Do(x.x); e != x.e {
			t.Error(x.x, e)
		}
		m, _ = m.do(x.x)
		hold(t, c, m)
	}
	if n, e := c.All(went("t", nums(2, 1)), came("t", nums(3, 0)), came("t", nums(4, 0))); n != 2 || e != api.ErrLong {
		t.Error(n, e)
	}
	hold(t, c, m)
}

// All renames of up to three pairs of four names, to catalogs of any of these tables.
func TestAllRenames(t *testing.T) {
	names := []string{"a", "b", "c", "d"}
	var pairs []string
	for _, a := range names {
		for _, b := range names {
			pairs = append(pairs, a+b)
		}
	}
	var renames []api.Event
	for _, a := range pairs {
		renames = append(renames, renamed(a))
		for _, b := range pairs {
			renames = append(renames, renamed(a, b))
			for _, c := range pairs {
				renames = append(renames, renamed(a, b, c))
			}
		}
	}
	for _, l := range []string{"ab bc cd da", "ab ba cd dc", "ad bc cb da", "aa bb cc dd", "ab bc cd dd", "ab bc ca ad", "ax by cz dw", "ax by cx dw", "da cd bc ab"} {
		renames = append(renames, renamed(strings.Split(l, " ")...))
	}
	told := map[api.Errno]int{}
	for those := range 1 << len(names) {
		c, m := catalog.New(), model{}
		for n, name := range names {
			if those>>n&1 != 0 {
				m = do(t, c, m, made(name, one()))
				m = do(t, c, m, came(name, nums(int64(1+n))))
			}
		}
		for _, x := range renames {
			next, want := m.do(x)
			then := c.Copy()
			if e := then.Do(x); e != want {
				t.Fatalf("%v of %v: %v, not %v", x.Names, m.names(), e, want)
			}
			hold(t, then, next)
			if want == api.OK {
				if e := then.Do(back(x)); e != api.OK || !catalog.Same(then, c) {
					t.Fatalf("%v of %v, and back: %v", x.Names, m.names(), e)
				}
			}
			told[want]++
		}
		hold(t, c, m)
	}
	for _, e := range []api.Errno{api.OK, api.ErrArg, api.ErrNone, api.ErrTaken} {
		if told[e] < 100 {
			t.Error(e, told[e])
		}
	}
}

// P13.2: All.

// Whichever event is refused, none ahead of it is done, and none behind it is asked for.
func TestAll(t *testing.T) {
	good := []api.Event{came("u", nums(8)), went("t", nums(1, 5)), made("w", one()), came("w", nums(1)), renamed("tx", "ut"), turned("t", nums(8), nums(9)), dropped("v"), made("v", two())}
	for at := range len(good) + 1 {
		for _, bad := range []struct {
			x api.Event
			e api.Errno
		}{
			{api.Event{}, api.ErrArg}, {renamed("yz", "yz"), api.ErrArg}, {dropped("y"), api.ErrNone}, {made("y", api.Schema{}), api.ErrArg}, {renamed("yy"), api.ErrNone},
		} {
			c, m := some(t)
			l := slices.Insert(slices.Clone(good), at, bad.x)
			for _, l := range [][]api.Event{l, append(slices.Clone(l), api.Event{}, dropped("t")), l[:at+1]} {
				if n, e := c.All(l...); n != at || e != bad.e {
					t.Errorf("%d: %d, %v, not %v", at, n, e, bad.e)
				}
				hold(t, c, m)
			}
		}
		c, m := some(t)
		if n, e := c.All(good[:at]...); n != 0 || e != api.OK {
			t.Error(at, n, e)
		}
		m, _, _ = m.all(good[:at])
		hold(t, c, m)
		c, m = some(t)
		for _, x := range good[:at] { // as one behind the other
			m = do(t, c, m, x)
		}
		hold(t, c, m)
	}
}

// Each event is asked by what those ahead of it did.
func TestAllSeeEachOther(t *testing.T) {
	for _, x := range []struct {
		l []api.Event
		n int
		e api.Errno
	}{
		{nil, 0, api.OK},
		{[]api.Event{came("t", nums(4, 7)), went("t", nums(4, 7))}, 0, api.OK},
		{[]api.Event{came("t", nums(4, 7)), turned("t", nums(4, 7), nums(5, 7)), went("t", nums(5, 7))}, 0, api.OK},
		{[]api.Event{came("t", nums(4, 7)), came("t", nums(4, 7))}, 1, api.ErrTaken},
		{[]api.Event{went("t", nums(1, 5)), came("t", nums(1, 6))}, 1, api.ErrTaken},
		{[]api.Event{went("t", nums(1, 5)), came("t", nums(1, 5))}, 0, api.OK},
		{[]api.Event{went("t", nums(1, 5)), went("t", nums(1, 5))}, 1, api.ErrStale},
		{[]api.Event{turned("t", nums(1, 5), nums(1, 7)), turned("t", nums(1, 5), nums(1, 7))}, 1, api.ErrStale},
		{[]api.Event{dropped("t"), made("t", one()), came("t", nums(1)), came("t", nums(1, 5))}, 3, api.ErrCount},
		{[]api.Event{dropped("t"), came("t", nums(4, 7))}, 1, api.ErrNone},
		{[]api.Event{made("w", one()), made("w", one())}, 1, api.ErrTaken},
		{[]api.Event{made("w", one()), dropped("w"), made("w", two()), came("w", nums(1, 1))}, 0, api.OK},
		{[]api.Event{renamed("tw"), came("t", nums(4, 7))}, 1, api.ErrNone},
		{[]api.Event{renamed("tw"), renamed("wt"), came("t", nums(4, 7))}, 0, api.OK},
		{[]api.Event{renamed("tw"), renamed("ut"), came("t", nums(4, 7))}, 2, api.ErrCount},
		{[]api.Event{renamed("tu"), came("w", nums(1)), {}}, 0, api.ErrTaken},
	} {
		c, m := some(t)
		if n, e := c.All(x.l...); n != x.n || e != x.e {
			t.Errorf("%v: %d, %v, not %d, %v", x.l, n, e, x.n, x.e)
		}
		m, _, _ = m.all(x.l)
		hold(t, c, m)
	}
}

// There is no bound of how many events are done together.
func TestAllOfMany(t *testing.T) {
	c, m := some(t)
	var l []api.Event
	for range 150 {
		l = append(l, came("t", nums(4, 7)), went("t", nums(4, 7)))
	}
	m = doAll(t, c, m, append(l, came("t", nums(9, 9)))...)
	hold(t, c, m)
	if n, e := c.All(append(l, came("t", nums(9, 9)))...); n != 300 || e != api.ErrTaken {
		t.Error(n, e)
	}
	hold(t, c, m)
}

// P13.3: Table, Names, Copy, Same.

func TestTable(t *testing.T) {
	c, m := some(t)
	for _, name := range []string{"", "w", "T", "tt", "t\x00", "\xff", strings.Repeat("t", 25), strings.Repeat("t", 100000)} {
		if b, is := c.Table(name); b != nil || is {
			t.Error(name, b, is)
		}
	}
	b, is := c.Table("t")
	other, _ := c.Table("t")
	if !is || b == other || !table.Same(b, other) {
		t.Fatal(is)
	}
	if e := b.Insert(nums(4, 7)...); e != api.OK {
		t.Error(e)
	}
	hold(t, c, m) // a table that was told is its holder's
	if table.Same(b, other) {
		t.Error("two tables that were told are one")
	}
	if _, e := b.Replace(nums(1, 6)...); e != api.OK {
		t.Error(e)
	}
	hold(t, c, m)
	m = do(t, c, m, went("t", nums(2, 6))) // and what is done later is not seen in it
	m = do(t, c, m, renamed("tw"))
	if got := rowsOf(other); !slices.EqualFunc(got, [][]api.Value{nums(1, 5), nums(2, 6), nums(3, 0)}, slices.Equal) {
		t.Error(got)
	}
	m = do(t, c, m, dropped("w"))
	if other.Len() != 3 || b.Len() != 3 {
		t.Error(other.Len(), b.Len())
	}
	hold(t, c, m)
	if b, is := c.Table("t"); b != nil || is {
		t.Error(b, is)
	}
}

func TestNames(t *testing.T) {
	c, m := catalog.New(), model{}
	for _, name := range []string{"b", "a", "t10", "t9", "t_", "t", "ta", "b0", "z", "a_b"} {
		m = do(t, c, m, made(name, one()))
		hold(t, c, m)
	}
	want := []string{"a", "a_b", "b", "b0", "t", "t10", "t9", "t_", "ta", "z"}
	if got := collect(c.Names()); !slices.Equal(got, number(want)) {
		t.Error(got)
	}
}

func TestNamesAreLeft(t *testing.T) {
	c, m := some(t)
	over, want := c.Names(), number(m.names())
	for range 2 {
		for many := 1; many <= len(want); many++ {
			var got []numbered
			for n, name := range over {
				got = append(got, numbered{n, name})
				if len(got) == many {
					break
				}
			}
			if !slices.Equal(got, want[:many]) {
				t.Error(got)
			}
		}
	}
	many := 0
	for n := range over { // and they may be gone over within themselves
		for other, name := range over {
			if m.names()[other] == name && n > other {
				many++
			}
		}
	}
	if many != 3 {
		t.Error(many)
	}
}

// The names are told as they are when Names is called, whatever is done behind that, or while they are gone over.
func TestNamesAsTheyWere(t *testing.T) {
	for n, x := range []api.Event{made("a", one()), made("w", one()), dropped("t"), dropped("v"), renamed("tw"), renamed("va", "ub"), renamed("tu", "ut")} {
		for at := -1; at < 3; at++ {
			c, m := some(t)
			over, want := c.Names(), number(m.names())
			change := func() {
				if e := c.Do(x); e != api.OK {
					t.Fatal(n, e)
				}
			}
			if at < 0 {
				change()
			}
			var got []numbered
			for n, name := range over {
				if len(got) == at {
					change()
				}
				got = append(got, numbered{n, name})
			}
			if !slices.Equal(got, want) || !slices.Equal(collect(over), want) {
				t.Errorf("%d at %d: %v, not %v", n, at, got, want)
			}
			m, _ = m.do(x)
			hold(t, c, m)
		}
	}
}

// What he who is told the names panics with is his.
func TestNamesLetPanic(t *testing.T) {
	c, m := some(t)
	for _, thrown := range []any{"mine", api.ErrTaken} {
		func() {
			defer func() {
				if given := recover(); given != thrown {
					t.Error(given)
				}
			}()
			for range c.Names() {
				panic(thrown)
			}
		}()
	}
	hold(t, c, m)
}

func TestCopy(t *testing.T) {
	c, m := some(t)
	other, mo := c.Copy(), m
	if other == nil || other == c || !catalog.Same(c, other) || !catalog.Same(other, c) {
		t.Fatal(other)
	}
	for n, x := range []api.Event{
		came("t", nums(4, 7)), went("u", nums(7)), turned("t", nums(2, 6), nums(2, 0)), made("w", one()), renamed("tu", "ut"), dropped("v"), came("w", nums(1)),
	} {
		again, ma := c.Copy(), m
		m = do(t, c, m, x)
		hold(t, c, m)
		hold(t, other, mo)
		hold(t, again, ma)
		if catalog.Same(c, other) || catalog.Same(other, c) || catalog.Same(c, again) {
			t.Error(n)
		}
		third, mt := other.Copy(), mo
		mt = do(t, third, mt, made("z", three())) // each goes on in its own way
		mt = do(t, third, mt, came("t", nums(int64(100+n), 0)))
		hold(t, third, mt)
		hold(t, other, mo)
		hold(t, c, m)
	}
	if e := catalog.New().Copy().Do(made("t", one())); e != api.OK {
		t.Error(e)
	}
}

func TestSame(t *testing.T) {
	big := one()
	big.Columns[0].Size = 2
	l := [][]api.Event{
		{},
		{made("t", one())},
		{made("t", two())},
		{made("t", big)},
		{made("u", one())},
		{made("t", one()), made("u", one())},
		{made("t", one()), made("u", two())},
		{made("t", two()), made("u", one())},
		{made("t", one()), came("t", nums(1))},
		{made("t", one()), came("t", nums(2))},
		{made("t", one()), came("t", nums(1)), came("t", nums(2))},
		{made("t", two()), came("t", nums(1, 5))},
		{made("t", two()), came("t", nums(1, 0))},
		{made("t", one()), made("u", one()), came("t", nums(1))},
		{made("t", one()), made("u", one()), came("u", nums(1))},
	}
	for i := range l {
		for j := range l {
			a, _ := of(t, l[i]...)
			b, _ := of(t, l[j]...)
			if catalog.Same(a, b) != (i == j) {
				t.Error(i, j)
			}
		}
	}
	a, _ := of(t, l[14]...) // however it came about
	for n, other := range [][]api.Event{
		{made("u", one()), made("t", one()), came("u", nums(1))},
		{made("t", one()), came("t", nums(1)), made("u", one()), renamed("tu", "ut")},
		{made("w", one()), came("w", nums(3)), renamed("wu"), made("t", two()), dropped("t"), turned("u", nums(3), nums(1)), made("t", one())},
	} {
		b, _ := of(t, other...)
		if !catalog.Same(a, b) || !catalog.Same(b, a) || !catalog.Same(a, a) {
			t.Error(n)
		}
	}
}

// What is handed in is neither changed nor kept.
func TestNothingIsShared(t *testing.T) {
	room := func(row []api.Value) []api.Value { return append(row, text("behind"))[:len(row)] }
	s := api.Schema{Columns: append(two().Columns, api.Column{Name: "behind"})[:2], Key: append([]int{0}, 99)[:1], Uniques: append([][]int{append([]int{1}, 99)[:1]}, []int{99})[:1]}
	given := []api.Event{
		made("t", s), came("t", room(nums(1, 5))), came("t", room(nums(2, 6))), turned("t", room(nums(1, 5)), room(nums(3, 5))), went("t", room(nums(2, 6))),
		{Kind: api.EventRename, Names: append([][2]string{{"t", "u"}}, [2]string{"x", "y"})[:1]}, {}, dropped("w"),
	}
	for _, together := range []bool{false, true} {
		l := slices.Clone(given[:6])
		c := catalog.New()
		if together {
			l = append(l, given[6])[:6]
			if n, e := c.All(l...); n != 0 || e != api.OK {
				t.Fatal(n, e)
			}
		} else {
			for _, x := range l {
				if e := c.Do(x); e != api.OK {
					t.Fatal(x, e)
				}
			}
		}
		if !schema.Same(s, two()) || s.Columns[:3][2].Name != "behind" || s.Key[:2][1] != 99 || s.Uniques[:2][1][0] != 99 || s.Uniques[0][:2][1] != 99 {
			t.Error(s)
		}
		for n, x := range l {
			if !event.Same(x, given[n]) {
				t.Error(n, x)
			}
			for _, row := range [][]api.Value{x.Old, x.New} {
				if row != nil && row[:3][2] != text("behind") {
					t.Error(n, row[:3])
				}
			}
		}
		if !slices.Equal(l[5].Names[:2], [][2]string{{"t", "u"}, {"x", "y"}}) || together && !event.Same(l[:7][6], api.Event{}) {
			t.Error(l[5].Names[:2])
		}
		hold(t, c, model{"u": rows{two(), [][]api.Value{nums(3, 5)}}})
	}
	c, m := of(t, given[:6]...)
	want := model{"u": rows{two(), [][]api.Value{nums(3, 5)}}}
	if !m.same(want) {
		t.Fatal(m)
	}
	for _, x := range given[:6] {
		spoil(x)
	}
	hold(t, c, want)
}

// spoil writes over all that an event names, and the spare room behind it.
func spoil(x api.Event) {
	for _, row := range [][]api.Value{x.Old, x.New} {
		row = row[:cap(row)]
		for n := range row {
			row[n] = text("spoilt")
		}
	}
	for _, set := range append([][]int{x.Schema.Key}, x.Schema.Uniques...) {
		for n := range set {
			set[n] = 77
		}
	}
	for n := range x.Schema.Columns {
		x.Schema.Columns[n] = api.Column{Name: "spoilt"}
	}
	for n := range x.Names {
		x.Names[n] = [2]string{"spoilt", "spoilt"}
	}
}

// Empty lists mean the same as none.
func TestEmptyLists(t *testing.T) {
	c := catalog.New()
	full := func(x api.Event) api.Event {
		x.Old, x.New, x.Names = append([]api.Value{}, x.Old...), append([]api.Value{}, x.New...), append([][2]string{}, x.Names...)
		if x.Kind != api.EventCreate {
			x.Schema = api.Schema{Columns: []api.Column{}, Key: []int{}, Uniques: [][]int{}}
		} else {
			x.Schema.Uniques = append([][]int{}, x.Schema.Uniques...)
		}
		return x
	}
	for _, x := range []api.Event{made("t", one()), came("t", nums(1)), turned("t", nums(1), nums(2)), made("u", two()), renamed("tu", "ut"), went("u", nums(2)), dropped("t")} {
		if e := c.Do(full(x)); e != api.OK {
			t.Error(x, e)
		}
	}
	hold(t, c, model{"u": rows{s: one()}})
	if n, e := c.All([]api.Event{}...); n != 0 || e != api.OK {
		t.Error(n, e)
	}
	if e := c.Do(full(came("u", nil))); e != api.ErrArg {
		t.Error(e)
	}
	if e := c.Do(full(went("u", nil))); e != api.ErrArg {
		t.Error(e)
	}
}

// P13.4: what follows. All catalogs that there are of two names and a few rows, and all that may be done to each.
func TestAllOfASmallShape(t *testing.T) {
	s := ints(1, "aB", []int{0}, []int{1})
	var l []api.Event
	var vals [][]api.Value
	for _, a := range []int64{1, 2} {
		for _, b := range []int64{0, 1} {
			vals = append(vals, nums(a, b))
		}
	}
	names := []string{"t", "u"}
	for _, name := range names {
		l = append(l, made(name, s), dropped(name))
		for _, x := range vals {
			l = append(l, came(name, x), went(name, x))
			for _, y := range vals {
				l = append(l, turned(name, x, y))
			}
		}
		for _, other := range names {
			l = append(l, renamed(name+other))
		}
	}
	l = append(l, renamed("tu", "ut"), renamed("tt", "uu"), renamed("tu", "uu"), renamed("tt", "ut"), renamed("tu", "tu"))
	type both struct {
		c *catalog.Catalog
		m model
	}
	seen := map[string]both{"map[]": {catalog.New(), model{}}}
	todo := []both{seen["map[]"]}
	for len(todo) > 0 {
		c, m := todo[0].c, todo[0].m
		todo = todo[1:]
		hold(t, c, m)
		for _, x := range l {
			then := c.Copy()
			next := do(t, then, m, x)
			hold(t, then, next)
			if _, e := m.do(x); e == api.OK && x.Kind != api.EventDrop {
				undone := then.Copy()
				if e := undone.Do(back(x)); e != api.OK || !catalog.Same(undone, c) {
					t.Fatalf("%v, and back: %v", x, e)
				}
			}
			name := fmt.Sprint(next)
			was, is := seen[name]
			if !is {
				seen[name] = both{then, next}
				todo = append(todo, seen[name])
			} else if !catalog.Same(was.c, then) {
				t.Fatal("two ways to one catalog lead to two")
			}
		}
		hold(t, c, m)
	}
	if len(seen) != 81 { // a name has no table, or one of the 8 there are
		t.Error(len(seen))
	}
}

// life does to a catalog what bytes say: of each event its kind, and what it names.
func life(t testing.TB, bytes []byte) {
	t.Helper()
	next := func(below int) int {
		if len(bytes) == 0 {
			return 0
		}
		c := bytes[0]
		bytes = bytes[1:]
		return int(c) % below
	}
	schemas := []api.Schema{one(), two(), three()}
	name := func() string { return string(rune('a' + next(15))) }
	c, m := catalog.New(), model{}
	row := func(name string) (l []api.Value) { // mostly of the table's columns
		many := len(m[name].s.Columns)
		if many == 0 || next(30) == 0 {
			many = next(5)
		}
		for range many {
			l = append(l, nums(int64(next(7)))[0])
		}
		return l
	}
	there := func(name string) []api.Value { // mostly one of its rows
		if l := m[name].rows; len(l) > 0 && next(8) > 0 {
			return slices.Clone(l[next(len(l))])
		}
		return row(name)
	}
	some := func() api.Event {
		at := name()
		if l := m.names(); len(l) > 0 && next(8) > 0 {
			at = l[next(len(l))]
		}
		switch next(12) {
		case 0, 1:
			return made(name(), schemas[next(3)])
		case 2:
			return dropped(at)
		case 3:
			pairs := []string{at + name()}
			for range next(4) {
				pairs = append(pairs, name()+name())
			}
			return renamed(pairs...)
		case 4:
			return renamed(at+name(), name()+at)
		case 5, 6:
			return went(at, there(at))
		case 7, 8:
			return turned(at, there(at), row(at))
		}
		return came(at, row(at))
	}
	behind := catalog.New() // does the same, but all at once
	var done []api.Event
	for len(bytes) > 0 {
		if next(6) > 0 {
			x := some()
			n := m
			m = do(t, c, m, x)
			if _, e := n.do(x); e == api.OK {
				done = append(done, x)
				if x.Kind != api.EventDrop {
					undone := c.Copy()
					if e := undone.Do(back(x)); e != api.OK {
						t.Fatal(x, e)
					}
					hold(t, undone, n)
				}
			}
		} else {
			var l []api.Event
			for range next(5) {
				l = append(l, some())
			}
			n := m
			m = doAll(t, c, m, l...)
			if _, _, e := n.all(l); e == api.OK {
				done = append(done, l...)
			}
		}
		hold(t, c, m)
	}
	if n, e := behind.All(done...); n != 0 || e != api.OK || !catalog.Same(behind, c) || !catalog.Same(c, behind) {
		t.Fatal(n, e)
	}
	hold(t, behind, m)
}

func TestLives(t *testing.T) {
	for seed := range int64(300) {
		r := rand.New(rand.NewSource(seed))
		bytes := make([]byte, 600)
		r.Read(bytes)
		life(t, bytes)
	}
}

func FuzzAnyLife(f *testing.F) {
	f.Add([]byte{1, 0, 0, 0, 0, 1, 0, 11})
	f.Add([]byte("\x01a\x01\x00b\x01\x01c\x01\x0a\x01\x02\x03\x00\x03abcdefg"))
	f.Fuzz(func(t *testing.T, bytes []byte) { life(t, bytes[:min(len(bytes), 2000)]) })
}
