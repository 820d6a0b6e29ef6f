package table_test

import (
	"fmt"
	"iter"
	"maps"
	"math"
	"math/rand"
	"slices"
	"strings"
	"testing"

	"swingbridge/api"
	"swingbridge/key"
	"swingbridge/schema"
	"swingbridge/table"
)

func null() api.Value         { return api.Value{} }
func num(n int64) api.Value   { return api.Value{Kind: api.ValueInt, Int: n} }
func uns(n uint64) api.Value  { return api.Value{Kind: api.ValueUint, Uint: n} }
func truth(n int64) api.Value { return api.Value{Kind: api.ValueBool, Int: n} }
func text(s string) api.Value { return api.Value{Kind: api.ValueBytes, Bytes: s} }
func row(l ...api.Value) []api.Value {
	return l
}

// nums is a row of numbers with a sign; 0 stands for null.
func nums(l ...int64) (row []api.Value) {
	for _, n := range l {
		if n == 0 {
			row = append(row, null())
		} else {
			row = append(row, num(n))
		}
	}
	return row
}

func column(name string, t api.TypeKind, size int, null bool) api.Column {
	return api.Column{Name: name, Type: t, Size: size, Null: null}
}

// ints is a schema of columns of one byte; those named in capitals may be null.
func ints(names string, keys []int, uniques ...[]int) api.Schema {
	s := api.Schema{Key: keys, Uniques: uniques}
	for _, name := range strings.Split(names, "") {
		s.Columns = append(s.Columns, column(strings.ToLower(name), api.TypeInt, 1, name != strings.ToLower(name)))
	}
	return s
}

// plain is the chapter's example.
func plain() api.Schema { return ints("aB", []int{0}, []int{1}) }

// mixed is of all types: a Key of two columns that stand in another order than it, three unique sets.
func mixed() api.Schema {
	return api.Schema{
		Columns: []api.Column{
			column("a", api.TypeUint, 2, false),
			column("b", api.TypeBytes, 3, true),
			column("c", api.TypeBool, 0, true),
			column("d", api.TypeInt, 8, false),
		},
		Key:     []int{3, 0},
		Uniques: [][]int{{1}, {2, 1}, {0}},
	}
}

// schemas are of all shapes that matter: sets that are alike, that hold each other, of one column up to four, of none that may be null, or of such alone.
func schemas() []api.Schema {
	wide := api.Schema{Key: []int{0, 1, 2, 3}, Uniques: [][]int{{3, 2, 1, 0}, {4, 5, 6, 7}}}
	for n := range 8 {
		wide.Columns = append(wide.Columns, column(fmt.Sprint("c", n), api.TypeBytes, 200, n > 3))
	}
	return []api.Schema{
		plain(),
		mixed(),
		wide,
		ints("a", []int{0}),
		ints("ab", []int{1, 0}, []int{0, 1}),
		ints("abC", []int{0}, []int{0}, []int{0}, []int{2}),
		ints("aBCD", []int{0}, []int{1}, []int{2}, []int{3}),
		ints("aBCD", []int{0}, []int{1, 2, 3}, []int{1, 2}, []int{3, 0}),
		{Columns: []api.Column{column("a", api.TypeBool, 0, false), column("b", api.TypeBool, 0, true)}, Key: []int{0}, Uniques: [][]int{{1}}},
	}
}

// values are some that fit a column; few, so that rows clash.
func values(c api.Column) (l []api.Value) {
	switch c.Type {
	case api.TypeInt:
		l = []api.Value{num(-128), num(-1), num(0), num(1), num(2), num(127)}
	case api.TypeUint:
		l = []api.Value{uns(0), uns(1), uns(2), uns(128), uns(255), uns(256), uns(257)}
	case api.TypeBool:
		l = []api.Value{truth(0), truth(1)}
	default:
		l = []api.Value{text(""), text("\x00"), text("a"), text("a\x00"), text("\xff\xff\xff")}
		if c.Size == 200 {
			l = append(l[:3], text(strings.Repeat("\xff", 200)), text(strings.Repeat("\x00", 200)))
		}
	}
	if c.Null {
		l = append(l, null(), null())
	}
	return l
}

func pick(row []api.Value, places []int) (l []api.Value) {
	for _, at := range places {
		l = append(l, row[at])
	}
	return l
}

// model is a table as the words say it: a schema, and rows in the order of their keys.
type model struct {
	s    api.Schema
	rows [][]api.Value
}

func (m model) sets() [][]int { return append([][]int{m.s.Key}, m.s.Uniques...) }

// alike asks whether two rows clash in a set.
func alike(places []int, a, b []api.Value) bool {
	for _, at := range places {
		if a[at] == null() || a[at] != b[at] {
			return false
		}
	}
	return true
}

func (m model) clash(a, b []api.Value) bool {
	for _, places := range m.sets() {
		if alike(places, a, b) {
			return true
		}
	}
	return false
}

func (m model) key(row []api.Value) string {
	k, e := key.Encode(pick(row, m.s.Key)...)
	if e != api.OK {
		panic(e)
	}
	return k
}

// split tells the rows that clash with one, and the others.
func (m model) split(row []api.Value) (those, others [][]api.Value) {
	for _, x := range m.rows {
		if m.clash(x, row) {
			those = append(those, x)
		} else {
			others = append(others, x)
		}
	}
	return those, others
}

// with is the model with these rows alone, in order.
func (m model) with(rows ...[]api.Value) model {
	l := slices.Clone(rows)
	slices.SortFunc(l, func(a, b []api.Value) int { return strings.Compare(m.key(a), m.key(b)) })
	return model{m.s, l}
}

// get is the row of a key, and the others.
func (m model) get(key string) (row []api.Value, is bool, others [][]api.Value) {
	for _, x := range m.rows {
		if m.key(x) == key {
			row, is = x, true
		} else {
			others = append(others, x)
		}
	}
	return row, is, others
}

func (m model) insert(row []api.Value) (model, api.Errno) {
	if e := schema.Row(m.s, row...); e != api.OK {
		return m, e
	}
	those, others := m.split(row)
	switch {
	case len(those) > 0:
		return m, api.ErrTaken
	case len(others) >= 400:
		return m, api.ErrLong
	}
	return m.with(append(others, row)...), api.OK
}

func (m model) replace(row []api.Value) (model, [][]api.Value, api.Errno) {
	if e := schema.Row(m.s, row...); e != api.OK {
		return m, nil, e
	}
	those, others := m.split(row)
	if len(others) >= 400 {
		return m, nil, api.ErrLong
	}
	return m.with(append(others, row)...), those, api.OK
}

func (m model) update(key string, row []api.Value) (model, []api.Value, api.Errno) {
	if e := schema.Row(m.s, row...); e != api.OK {
		return m, nil, e
	}
	old, is, others := m.get(key)
	if !is {
		return m, nil, api.ErrNone
	}
	if those, _ := m.with(others...).split(row); len(those) > 0 {
		return m, nil, api.ErrTaken
	}
	return m.with(append(others, row)...), old, api.OK
}

func (m model) remove(key string) (model, []api.Value, api.Errno) {
	old, is, others := m.get(key)
	if !is {
		return m, nil, api.ErrNone
	}
	return m.with(others...), old, api.OK
}

// keyed is a row with its key.
type keyed struct {
	key string
	row []api.Value
}

func (m model) from(key string) (l []keyed) {
	for _, x := range m.rows {
		if m.key(x) >= key {
			l = append(l, keyed{m.key(x), x})
		}
	}
	return l
}

func collect(over iter.Seq2[string, []api.Value]) (l []keyed) {
	for key, row := range over {
		l = append(l, keyed{key, row})
	}
	return l
}

func same(a, b []keyed) bool {
	return slices.EqualFunc(a, b, func(a, b keyed) bool { return a.key == b.key && slices.Equal(a.row, b.row) })
}

func sameRows(a, b [][]api.Value) bool { return slices.EqualFunc(a, b, slices.Equal) }

// spoil writes over a list that was told, and the spare room behind it.
func spoil(l []api.Value) {
	l = l[:cap(l)]
	for n := range l {
		l[n] = text("spoilt")
	}
}

// hold holds a table against a model. What it is told it spoils.
func hold(t testing.TB, b *table.Table, m model) {
	t.Helper()
	if b.Len() != len(m.rows) || !schema.Same(b.Schema(), m.s) {
		t.Fatalf("%d rows, not %d", b.Len(), len(m.rows))
	}
	got, want := collect(b.Rows("")), m.from("")
	if !same(got, want) {
		t.Fatalf("%v, not %v", got, want)
	}
	for _, x := range got {
		spoil(x.row)
	}
	for _, x := range m.rows {
		row, is := b.Get(m.key(x))
		if !slices.Equal(row, x) || !is {
			t.Fatalf("%v, %v, not %v", row, is, x)
		}
		spoil(row)
		for set, places := range m.sets() {
			vals := pick(x, places)
			row, is := b.Find(set, vals...)
			if slices.Contains(vals, null()) {
				if row != nil || is {
					t.Fatalf("by null %v, %v", row, is)
				}
				continue
			}
			if !slices.Equal(row, x) || !is {
				t.Fatalf("by %d, %v: %v, %v, not %v", set, vals, row, is, x)
			}
			spoil(row)
		}
	}
}

// holdNone holds that what clashes with no row of the model is not found.
func holdNone(t testing.TB, b *table.Table, m model, row []api.Value) {
	t.Helper()
	for set, places := range m.sets() {
		is := slices.ContainsFunc(m.rows, func(x []api.Value) bool { return alike(places, row, x) })
		if got, found := b.Find(set, pick(row, places)...); found != is || is != (got != nil) {
			t.Fatalf("by %d of %v: %v, %v", set, row, got, found)
		}
	}
}

func newTable(t testing.TB, s api.Schema, rows ...[]api.Value) (*table.Table, model) {
	t.Helper()
	b, e := table.New(s)
	if b == nil || e != api.OK {
		t.Fatal(b, e)
	}
	m := model{s: s}
	for _, row := range rows {
		m = insert(t, b, m, row)
	}
	return b, m
}

// insert, ignore, replace, update and remove do the same to both, and hold the answers.
func insert(t testing.TB, b *table.Table, m model, row []api.Value) model {
	t.Helper()
	m, want := m.insert(row)
	if e := b.Insert(row...); e != want {
		t.Fatalf("insert %v: %v, not %v", row, e, want)
	}
	return m
}

func ignore(t testing.TB, b *table.Table, m model, row []api.Value) model {
	t.Helper()
	m, want := m.insert(row)
	came := want == api.OK
	if want == api.ErrTaken {
		want = api.OK
	}
	if is, e := b.Ignore(row...); is != came || e != want {
		t.Fatalf("ignore %v: %v, %v, not %v, %v", row, is, e, came, want)
	}
	return m
}

func replace(t testing.TB, b *table.Table, m model, row []api.Value) model {
	t.Helper()
	m, those, want := m.replace(row)
	l, e := b.Replace(row...)
	if !sameRows(l, those) || e != want || e != api.OK && l != nil {
		t.Fatalf("replace %v: %v, %v, not %v, %v", row, l, e, those, want)
	}
	for _, x := range l {
		spoil(x)
	}
	return m
}

func update(t testing.TB, b *table.Table, m model, key string, row []api.Value) model {
	t.Helper()
	m, old, want := m.update(key, row)
	got, e := b.Update(key, row...)
	if !slices.Equal(got, old) || e != want || e != api.OK && got != nil {
		t.Fatalf("update %q, %v: %v, %v, not %v, %v", key, row, got, e, old, want)
	}
	spoil(got)
	return m
}

func remove(t testing.TB, b *table.Table, m model, key string) model {
	t.Helper()
	m, old, want := m.remove(key)
	got, e := b.Delete(key)
	if !slices.Equal(got, old) || e != want || e != api.OK && got != nil {
		t.Fatalf("delete %q: %v, %v, not %v, %v", key, got, e, old, want)
	}
	spoil(got)
	return m
}

// nones are tables that are not there.
func nones() []*table.Table {
	refused, _ := table.New(api.Schema{})
	return []*table.Table{nil, {}, refused}
}

// wrong are rows that don't fit the chapter's example, and what is told of them.
func wrong() map[api.Errno][][]api.Value {
	return map[api.Errno][][]api.Value{
		api.ErrCount: {nil, {}, nums(1), nums(1, 1, 1), make([]api.Value, 10000), row(text(strings.Repeat("a", 201)))},
		api.ErrNull:  {nums(0, 1), nums(0, 0), row(null(), text(strings.Repeat("a", 201)))},
		api.ErrType:  {row(uns(1), num(1)), row(num(1), text("1")), row(num(1), truth(1)), row(uns(1), num(1000))},
		api.ErrSize:  {nums(128, 1), nums(-129, 1), nums(1, 128), nums(1, math.MinInt64), row(num(1000), uns(1))},
		api.ErrArg:   {row(api.Value{Kind: 7}, null()), row(num(1), api.Value{Kind: -1}), row(num(1), api.Value{Int: 1}), row(api.Value{Kind: 1, Int: 1, Uint: 1}, uns(1))},
		api.ErrLong:  {row(text(strings.Repeat("a", 201)), null()), row(num(1), text(strings.Repeat("a", 201)))},
	}
}

// P12.1: New, Insert, Ignore, Replace.

func TestExamples(t *testing.T) {
	b, e := table.New(plain())
	if e != api.OK {
		t.Fatal(e)
	}
	for n, c := range []struct {
		row []api.Value
		e   api.Errno
	}{{nums(1, 5), api.OK}, {nums(2, 0), api.OK}, {nums(3, 0), api.OK}, {nums(1, 6), api.ErrTaken}, {nums(4, 5), api.ErrTaken}} {
		if e := b.Insert(c.row...); e != c.e {
			t.Error(n, e)
		}
	}
	if came, e := b.Ignore(nums(4, 5)...); came || e != api.OK {
		t.Error(came, e)
	}
	l, e := b.Replace(nums(2, 5)...)
	if !sameRows(l, [][]api.Value{nums(1, 5), nums(2, 0)}) || e != api.OK {
		t.Error(l, e)
	}
	hold(t, b, model{plain(), [][]api.Value{nums(2, 5), nums(3, 0)}})
	if row, is := b.Find(1, num(5)); !slices.Equal(row, nums(2, 5)) || !is {
		t.Error(row, is)
	}
	k, e := key.Encode(num(3))
	if old, e := b.Update(k, nums(2, 7)...); old != nil || e != api.ErrTaken {
		t.Error(old, e)
	}
	hold(t, b, model{plain(), [][]api.Value{nums(2, 5), nums(3, 0)}})
}

func TestNew(t *testing.T) {
	for n, s := range schemas() {
		b, e := table.New(s)
		if b == nil || e != api.OK {
			t.Fatal(n, e)
		}
		hold(t, b, model{s: s})
		if other, _ := table.New(s); other == b || !table.Same(other, b) {
			t.Error(n)
		}
	}
}

func TestNewRefuses(t *testing.T) {
	long := plain()
	long.Columns = slices.Repeat(long.Columns, 5)
	twice := plain()
	twice.Columns[1].Name = "a"
	size := plain()
	size.Columns[0].Size = 3
	for n, s := range []api.Schema{
		{}, {Key: []int{0}}, long, twice, size,
		ints("a", nil), ints("A", []int{0}), ints("a", []int{1}), ints("a", []int{-1}), ints("a", []int{0, 0}), ints("abcde", []int{0, 1, 2, 3, 4}),
		ints("a", []int{0}, nil), ints("a", []int{0}, []int{1}), ints("a", []int{0}, []int{0}, []int{0}, []int{0}, []int{0}),
	} {
		if b, e := table.New(s); b != nil || e != api.ErrArg {
			t.Error(n, b, e)
		}
	}
}

// A row that does not fit is told of ahead of all else; nothing is done then.
func TestRowsThatDontFit(t *testing.T) {
	b, m := newTable(t, plain(), nums(1, 1), nums(2, 0))
	k := m.key(nums(1, 1))
	for e, rows := range wrong() {
		for n, row := range rows {
			if got := b.Insert(row...); got != e {
				t.Error(e, n, got)
			}
			if came, got := b.Ignore(row...); came || got != e {
				t.Error(e, n, came, got)
			}
			if l, got := b.Replace(row...); l != nil || got != e {
				t.Error(e, n, l, got)
			}
			for _, key := range []string{k, "none", ""} {
				if old, got := b.Update(key, row...); old != nil || got != e {
					t.Error(e, n, old, got)
				}
			}
			if key, got := b.Key(row...); key != "" || got != e {
				t.Error(e, n, key, got)
			}
			hold(t, b, m)
		}
	}
}

// What is not there is told of ahead of any row.
func TestNone(t *testing.T) {
	for n, b := range nones() {
		rows := slices.Concat(slices.Collect(maps.Values(wrong()))...)
		for _, row := range append(rows, nums(1, 1)) {
			if e := b.Insert(row...); e != api.ErrNil {
				t.Error(n, e)
			}
			if came, e := b.Ignore(row...); came || e != api.ErrNil {
				t.Error(n, came, e)
			}
			if l, e := b.Replace(row...); l != nil || e != api.ErrNil {
				t.Error(n, l, e)
			}
			if old, e := b.Update("", row...); old != nil || e != api.ErrNil {
				t.Error(n, old, e)
			}
			if key, e := b.Key(row...); key != "" || e != api.ErrNil {
				t.Error(n, key, e)
			}
			for set := -1; set < 5; set++ {
				if row, is := b.Find(set, row...); row != nil || is {
					t.Error(n, row, is)
				}
			}
		}
		if old, e := b.Delete(""); old != nil || e != api.ErrNil {
			t.Error(n, old, e)
		}
		if row, is := b.Get(""); row != nil || is {
			t.Error(n, row, is)
		}
		over := b.Rows("")
		if over == nil || collect(over) != nil || b.Len() != 0 || !schema.Same(b.Schema(), api.Schema{}) || b.Copy() != nil {
			t.Error(n)
		}
		for _, other := range nones() {
			if !table.Same(b, other) {
				t.Error(n)
			}
		}
		for _, s := range schemas() {
			other, _ := newTable(t, s)
			if table.Same(b, other) || table.Same(other, b) {
				t.Error(n)
			}
		}
	}
}

// Which rows clash, set by set: null clashes with nothing, and all values of a set must be the same.
func TestClash(t *testing.T) {
	three := ints("aBC", []int{0}, []int{1, 2})
	own := ints("aB", []int{0}, []int{0}, []int{1, 0})
	bytes := api.Schema{Columns: []api.Column{column("a", api.TypeInt, 1, false), column("b", api.TypeBytes, 2, true)}, Key: []int{0}, Uniques: [][]int{{1}}}
	for n, c := range []struct {
		s      api.Schema
		a, b   []api.Value
		clash  bool
		others [][]api.Value
	}{
		{plain(), nums(1, 1), nums(1, 1), true, nil},
		{plain(), nums(1, 1), nums(1, 0), true, nil},
		{plain(), nums(1, 0), nums(1, 0), true, nil},
		{plain(), nums(1, 1), nums(2, 1), true, nil},
		{plain(), nums(1, 1), nums(2, 2), false, nil},
		{plain(), nums(1, 0), nums(2, 0), false, nil},
		{plain(), nums(1, 2), nums(2, 1), false, nil}, // values of other sets
		{plain(), nums(-1, 1), nums(1, -1), false, nil},
		{three, nums(1, 1, 1), nums(2, 1, 1), true, nil},
		{three, nums(1, 1, 2), nums(2, 2, 1), false, nil},
		{three, nums(1, 1, 1), nums(2, 1, 2), false, nil},
		{three, nums(1, 1, 0), nums(2, 1, 0), false, nil}, // one is null
		{three, nums(1, 0, 1), nums(2, 0, 1), false, nil},
		{three, nums(1, 0, 0), nums(2, 0, 0), false, nil},
		{own, nums(1, 1), nums(2, 1), false, nil},
		{own, nums(1, 1), nums(1, 2), true, nil},
		{bytes, row(num(1), text("")), row(num(2), text("")), true, nil}, // no bytes are not null
		{bytes, row(num(1), text("")), row(num(2), null()), false, nil},
		{bytes, row(num(1), text("")), row(num(2), text("\x00")), false, nil},
		{bytes, row(num(1), text("a")), row(num(2), text("a\x00")), false, nil},
		{bytes, row(num(1), text("\xff")), row(num(2), text("\xff")), true, nil},
	} {
		for _, l := range [][2][]api.Value{{c.a, c.b}, {c.b, c.a}} {
			b, m := newTable(t, c.s, l[0])
			if m.clash(l[0], l[1]) != c.clash {
				t.Fatal(n)
			}
			want := api.OK
			if c.clash {
				want = api.ErrTaken
			}
			if e := b.Copy().Insert(l[1]...); e != want {
				t.Errorf("%d: %v, not %v", n, e, want)
			}
			if came, e := b.Copy().Ignore(l[1]...); came == c.clash || e != api.OK {
				t.Error(n, came, e)
			}
			if went, e := b.Copy().Replace(l[1]...); (len(went) == 1) != c.clash || e != api.OK || c.clash && !slices.Equal(went[0], l[0]) {
				t.Error(n, went, e)
			}
			hold(t, b, m)
		}
	}
}

// Replace tells those that went by their keys, each once, whichever set they clash in.
func TestReplace(t *testing.T) {
	s := ints("aBCD", []int{0}, []int{1}, []int{2}, []int{3})
	rows := [][]api.Value{nums(1, 1, 1, 1), nums(2, 2, 2, 2), nums(3, 3, 3, 3), nums(4, 4, 4, 4), nums(5, 0, 0, 0)}
	for _, c := range []struct {
		row  []api.Value
		went []int
	}{
		{nums(6, 6, 6, 6), nil},
		{nums(6, 0, 0, 0), nil},
		{nums(5, 5, 5, 5), []int{5}},
		{nums(1, 1, 1, 1), []int{1}},
		{nums(1, 0, 0, 0), []int{1}},
		{nums(6, 1, 6, 6), []int{1}},
		{nums(6, 6, 1, 1), []int{1}},
		{nums(1, 2, 3, 4), []int{1, 2, 3, 4}},
		{nums(4, 3, 2, 1), []int{1, 2, 3, 4}},
		{nums(4, 2, 2, 1), []int{1, 2, 4}},
		{nums(6, 4, 1, 3), []int{1, 3, 4}},
		{nums(5, 4, 4, 4), []int{4, 5}},
		{nums(-1, 0, 3, 1), []int{1, 3}},
	} {
		b, m := newTable(t, s, rows...)
		l, e := b.Replace(c.row...)
		if len(l) != len(c.went) || e != api.OK {
			t.Fatal(c.row, l, e)
		}
		for n, at := range c.went {
			if !slices.Equal(l[n], rows[at-1]) {
				t.Error(c.row, l)
			}
		}
		m, _, _ = m.replace(c.row)
		hold(t, b, m)
		b, m = newTable(t, s, rows...)
		m = replace(t, b, m, c.row)
		hold(t, b, m)
		for _, at := range c.went {
			holdNone(t, b, m, rows[at-1])
		}
	}
}

// A full table takes no row more; what clashes is told of ahead of that, and what goes makes room.
func TestFull(t *testing.T) {
	s := api.Schema{Columns: []api.Column{column("a", api.TypeInt, 2, false), column("b", api.TypeInt, 2, true)}, Key: []int{0}, Uniques: [][]int{{1}}}
	b, m := newTable(t, s)
	for n := range int64(400) {
		if e := b.Insert(num(1000-n), num(1+n)); e != api.OK {
			t.Fatal(n, e)
		}
		m.rows = append(m.rows, nums(1000-n, 1+n))
	}
	m = m.with(m.rows...)
	hold(t, b, m)
	full := b.Copy()
	for _, row := range [][]api.Value{nums(1, 1), nums(1000, 999), nums(1000, 1), nums(1000, 400), nums(601, 1)} {
		if e := b.Insert(row...); e != api.ErrTaken {
			t.Error(row, e)
		}
		if came, e := b.Ignore(row...); came || e != api.OK {
			t.Error(row, came, e)
		}
	}
	for _, row := range [][]api.Value{nums(1, 999), nums(1, 0), nums(2000, 401)} {
		if e := b.Insert(row...); e != api.ErrLong {
			t.Error(row, e)
		}
		if came, e := b.Ignore(row...); came || e != api.ErrLong {
			t.Error(row, came, e)
		}
		if l, e := b.Replace(row...); l != nil || e != api.ErrLong {
			t.Error(row, l, e)
		}
	}
	hold(t, b, m)
	if !table.Same(b, full) {
		t.Error("what was refused is seen")
	}
	m = update(t, b, m, m.key(nums(1000, 1)), nums(1, 0)) // of as many rows
	m = update(t, b, m, m.key(nums(1, 0)), nums(1, 400))  // taken
	hold(t, b, m)
	m = replace(t, b, m, nums(999, 2))  // the same again
	m = replace(t, b, m, nums(2, 3))    // one for another one
	m = replace(t, b, m, nums(997, 5))  // one for two
	m = insert(t, b, m, nums(2000, 0))  // there was room for one
	m = insert(t, b, m, nums(2001, 0))  // and no more
	m = ignore(t, b, m, nums(2001, 0))  //
	m = replace(t, b, m, nums(2001, 0)) //
	m = remove(t, b, m, m.key(nums(2000, 0)))
	m = ignore(t, b, m, nums(2001, 0))
	m = ignore(t, b, m, nums(2002, 0))
	if b.Len() != 400 {
		t.Error(b.Len())
	}
	hold(t, b, m)
	if full.Len() != 400 || table.Same(b, full) {
		t.Error("a copy is no other one")
	}
}

// P12.2: Update, Delete.

func TestUpdate(t *testing.T) {
	b, m := newTable(t, plain(), nums(1, 1), nums(2, 2), nums(3, 0))
	one := m.key(nums(1, 1))
	for _, row := range [][]api.Value{
		nums(1, 1),  // the same
		nums(1, 3),  // another value, the same key
		nums(1, 0),  //
		nums(1, 1),  //
		nums(1, 2),  // taken by the second row
		nums(2, 1),  // the second row's key
		nums(2, 2),  // that row itself
		nums(2, 0),  //
		nums(4, 2),  // another key, taken
		nums(3, 3),  // the third row's key
		nums(4, 0),  // it goes elsewhere
		nums(1, 1),  // there is none of this key now
		nums(2, 2),  // told ahead of what is taken
		nums(-5, 9), //
	} {
		m = update(t, b, m, one, row)
		hold(t, b, m)
		holdNone(t, b, m, nums(1, 1))
	}
	four := m.key(nums(4, 0))
	m = update(t, b, m, four, nums(1, 1)) // and back
	hold(t, b, m)
	holdNone(t, b, m, nums(4, 0))
	m = update(t, b, m, one, nums(1, 5)) // its old value is free, its new one taken
	m = insert(t, b, m, nums(4, 1))
	m = insert(t, b, m, nums(5, 5))
	m = insert(t, b, m, nums(6, 1))
	hold(t, b, m)
	for _, key := range []string{"", "\x00", one + "\x00", one[:len(one)-1], "none", strings.Repeat("a", 2000), strings.Repeat("a", 2001), strings.Repeat("\xff", 10000)} {
		m = update(t, b, m, key, nums(9, 9))
		m = update(t, b, m, key, nums(1, 5))
		m = remove(t, b, m, key)
	}
	hold(t, b, m)
}

func TestDelete(t *testing.T) {
	s := mixed()
	rows := [][]api.Value{
		row(uns(1), text("a"), truth(0), num(1)),
		row(uns(2), text("b"), null(), num(-1)),
		row(uns(3), null(), truth(1), num(2)),
		row(uns(4), null(), null(), num(1)),
	}
	for _, order := range [][]int{{0, 1, 2, 3}, {3, 2, 1, 0}, {2, 0, 3, 1}} {
		b, m := newTable(t, s, rows...)
		for _, n := range order {
			k := m.key(rows[n])
			m = remove(t, b, m, k)
			hold(t, b, m)
			holdNone(t, b, m, rows[n])
			m = remove(t, b, m, k) // it is gone
			hold(t, b, m)
			m = insert(t, b, m, rows[n]) // nothing of it is left in the way
			hold(t, b, m)
			m = remove(t, b, m, k)
		}
		if b.Len() != 0 || collect(b.Rows("")) != nil {
			t.Error(b.Len())
		}
	}
}

// P12.3: Key, Get, Find, Rows, Len, Schema.

func TestKey(t *testing.T) {
	b, m := newTable(t, mixed())
	for _, c := range []struct {
		row []api.Value
		key string
	}{
		{row(uns(258), text("a"), truth(0), num(-1)), "\x01\x7f\xff\xff\xff\xff\xff\xff\xff\x02\x02\x01\x02"},
		{row(uns(0), null(), null(), num(0)), "\x01\x80\x00\x00\x00\x00\x00\x00\x00\x02\x00"},
	} {
		for range 2 {
			if k, e := b.Key(c.row...); k != c.key || e != api.OK {
				t.Errorf("%q, %v", k, e)
			}
			hold(t, b, m)
			m = replace(t, b, m, c.row) // of a row that is there it is the same
		}
	}
}

// Values that no row has, that may not be, too few and too many, and sets that are not there.
func TestFindNone(t *testing.T) {
	x, y := row(uns(1), text("a"), truth(0), num(1)), row(uns(2), null(), truth(1), num(2))
	b, m := newTable(t, mixed(), x, y)
	for _, c := range []struct {
		set  int
		vals []api.Value
	}{
		{0, nil}, {0, row(num(1))}, {0, row(uns(1), num(1))}, {0, row(num(1), uns(2))}, {0, row(num(1), uns(1), null())}, {0, row(num(1), uns(1), num(1))},
		{0, row(null(), uns(1))}, {0, row(num(1), null())}, {0, row(null(), null())}, {0, x}, {0, row(num(1), num(1))},
		{1, nil}, {1, row(null())}, {1, row(text(""))}, {1, row(text("b"))}, {1, row(text("a"), text("a"))}, {1, row(text("a"), null())},
		{1, row(text("a\x00"))}, {1, row(text(strings.Repeat("a", 200)))}, {1, row(text(strings.Repeat("a", 201)))}, {1, row(num(1))},
		{1, slices.Repeat(row(text("a")), 5000)}, {1, make([]api.Value, 5000)},
		{2, row(truth(1), null())}, {2, row(truth(0))}, {2, row(text("a"), truth(0))}, {2, row(truth(1), text("a"))},
		{3, row(num(1))}, {3, row(uns(3))}, {3, row(api.Value{Kind: 2, Uint: 1, Int: 1})}, {3, row(api.Value{Kind: 9, Uint: 1})}, {3, row(api.Value{Uint: 1})},
		{-1, row(num(1), uns(1))}, {-1, row(text("a"))}, {-1, nil}, {4, row(uns(1))}, {4, nil}, {5, row(text("a"))},
		{math.MinInt, row(uns(1))}, {math.MaxInt, row(uns(1))},
	} {
		if got, is := b.Find(c.set, c.vals...); got != nil || is {
			t.Errorf("%d, %.100v: %v, %v", c.set, c.vals, got, is)
		}
	}
	for _, c := range []struct {
		set  int
		vals []api.Value
		want []api.Value
	}{
		{0, row(num(1), uns(1)), x}, {0, row(num(2), uns(2)), y}, {1, row(text("a")), x}, {2, row(truth(0), text("a")), x}, {3, row(uns(1)), x}, {3, row(uns(2)), y},
	} {
		if got, is := b.Find(c.set, c.vals...); !slices.Equal(got, c.want) || !is {
			t.Errorf("%d, %v: %v, %v", c.set, c.vals, got, is)
		}
	}
	for _, k := range []string{"", "\x00", m.key(x) + "\x00", m.key(x)[1:], m.key(x) + m.key(x), strings.Repeat("a", 2000), strings.Repeat("a", 5000)} {
		if got, is := b.Get(k); got != nil || is {
			t.Errorf("%q: %v, %v", k, got, is)
		}
	}
	hold(t, b, m)
}

// some is a table of so many rows, whose keys are 10, 20 and so on, up to 120.
func some(t testing.TB, many int) (*table.Table, model) {
	t.Helper()
	b, m := newTable(t, plain())
	for n := range many {
		m = insert(t, b, m, nums(int64(10*(many-n)), int64(1+n)))
	}
	return b, m
}

func TestRows(t *testing.T) {
	for many := range 13 {
		b, m := some(t, many)
		from := []string{"", "\x00", "\x01", "\x02", "\xff", strings.Repeat("\x01", 2000), strings.Repeat("\x01", 2001), strings.Repeat("\xff", 5000)}
		for n := -1; n < 128; n++ {
			k := m.key(row(num(int64(n)), null()))
			from = append(from, k, key.Behind(k), key.All(k), k[:len(k)-1])
		}
		for _, k := range from {
			if got, want := collect(b.Rows(k)), m.from(k); !same(got, want) {
				t.Fatalf("%d from %q: %v, not %v", many, k, got, want)
			}
		}
	}
}

func TestRowsAreLeft(t *testing.T) {
	b, m := some(t, 11)
	over, want := b.Rows(m.key(nums(20, 0))), m.from(m.key(nums(20, 0)))
	for range 2 {
		for many := 1; many <= len(want); many++ {
			var got []keyed
			for key, row := range over {
				got = append(got, keyed{key, row})
				if len(got) == many {
					break
				}
			}
			if !same(got, want[:many]) {
				t.Error(got)
			}
		}
	}
	many := 0
	for one := range b.Rows(m.key(nums(100, 0))) { // and it may be gone over within itself
		for other := range over {
			if one > other {
				many++
			}
		}
	}
	if many != 8+9 {
		t.Error(many)
	}
	for _, x := range collect(over) { // each time its rows are new ones
		spoil(x.row)
	}
	if !same(collect(over), want) {
		t.Error(collect(over))
	}
	hold(t, b, m)
}

// The rows are told as they are when Rows is called, whatever comes and goes behind that, or while they are gone over.
func TestRowsAsTheyWere(t *testing.T) {
	for n, change := range []func(b *table.Table, m model){
		func(b *table.Table, m model) { b.Insert(nums(99, 99)...) },
		func(b *table.Table, m model) { b.Ignore(nums(1, 0)...) },
		func(b *table.Table, m model) { b.Replace(nums(10, 5)...) },
		func(b *table.Table, m model) { b.Update(m.key(nums(110, 0)), nums(110, 0)...) },
		func(b *table.Table, m model) { b.Update(m.key(nums(20, 0)), nums(127, 0)...) },
		func(b *table.Table, m model) {
			for _, x := range m.rows {
				b.Delete(m.key(x))
			}
		},
	} {
		for at := -1; at < 11; at++ {
			for _, from := range []int64{-1, 10, 55, 110, 127} {
				b, m := some(t, 11)
				k := m.key(nums(from, 0))
				over, want := b.Rows(k), m.from(k)
				if at < 0 {
					change(b, m)
				}
				var got []keyed
				for key, row := range over {
					if len(got) == at {
						change(b, m)
					}
					got = append(got, keyed{key, row})
				}
				if !same(got, want) || !same(collect(over), want) {
					t.Errorf("%d at %d from %d: %v, not %v", n, at, from, got, want)
				}
			}
		}
	}
	b, m := newTable(t, plain())
	over := b.Rows("")
	insert(t, b, m, nums(1, 1))
	if collect(over) != nil || len(collect(b.Rows(""))) != 1 {
		t.Error(collect(over))
	}
}

// What he who is told the rows panics with is his.
func TestRowsLetPanic(t *testing.T) {
	b, m := some(t, 3)
	for _, thrown := range []any{"mine", api.ErrTaken} {
		func() {
			defer func() {
				if given := recover(); given != thrown {
					t.Error(given)
				}
			}()
			for range b.Rows("") {
				panic(thrown)
			}
		}()
	}
	hold(t, b, m)
}

// What is handed in is neither changed nor kept, and what is told is new.
func TestNothingIsShared(t *testing.T) {
	s, want := mixed(), mixed()
	b, e := table.New(s)
	if e != api.OK || !schema.Same(s, want) {
		t.Fatal(e)
	}
	spoilSchema(s)
	m := model{s: want}
	x, y := row(uns(1), text("a"), truth(0), num(1)), row(uns(2), text("b"), null(), num(-1))
	room := append(slices.Clone(x), text("behind"), text("behind"))
	for n, call := range []func(...api.Value) api.Errno{
		b.Insert,
		func(row ...api.Value) api.Errno { _, e := b.Ignore(row...); return e },
		func(row ...api.Value) api.Errno { _, e := b.Replace(row...); return e },
		func(row ...api.Value) api.Errno { _, e := b.Update(m.key(x), row...); return e },
		func(row ...api.Value) api.Errno { _, e := b.Key(row...); return e },
	} {
		given := slices.Clone(room)
		if e := call(given[:4]...); e != api.OK || !slices.Equal(given, room) {
			t.Fatal(n, e, given)
		}
		spoil(given)
		hold(t, b, model{want, [][]api.Value{x}})
	}
	m = insert(t, b, model{want, [][]api.Value{x}}, y)
	given := append(pick(x, want.Key), text("behind"))
	if _, is := b.Find(0, given[:2]...); !is || !slices.Equal(given, append(pick(x, want.Key), text("behind"))) {
		t.Error(is, given)
	}
	one, other := b.Schema(), b.Schema()
	if !schema.Same(one, want) || len(one.Uniques) != 3 {
		t.Error(one)
	}
	spoilSchema(one)
	c := b.Copy()
	spoilSchema(b.Copy().Schema())
	if !schema.Same(other, want) || !schema.Same(b.Schema(), want) || !schema.Same(c.Schema(), want) {
		t.Error(other, b.Schema(), c.Schema())
	}
	hold(t, b, m)
	hold(t, c, m)
	l, e := b.Replace(uns(1), text("b"), null(), num(-1)) // both go
	if len(l) != 2 || e != api.OK {
		t.Fatal(l, e)
	}
	first := append(l[0], text("more")) // no spare room of one row is another one's
	spoil(first)
	spoil(l[0])
	if !slices.Equal(l[1], x) {
		t.Error(l)
	}
}

func spoilSchema(s api.Schema) {
	for _, set := range append([][]int{s.Key}, s.Uniques...) {
		set = set[:cap(set)]
		for n := range set {
			set[n] = 99
		}
	}
	for n := range s.Columns {
		s.Columns[n] = api.Column{Name: "spoilt"}
	}
	s.Uniques = s.Uniques[:cap(s.Uniques)]
	for n := range s.Uniques {
		s.Uniques[n] = []int{77}
	}
}

// P12.4: Copy, Same.

func TestCopy(t *testing.T) {
	for many := range 13 {
		b, m := some(t, many)
		c := b.Copy()
		if c == nil || c == b || !table.Same(b, c) || !table.Same(c, b) {
			t.Fatal(many)
		}
		hold(t, c, m)
		of, oc := m, m
		for n := range int64(20) { // each goes on in its own way
			of = replace(t, b, of, nums(1+3*n, 1+2*n))
			hold(t, c, oc)
			oc = replace(t, c, oc, nums(1+2*n, 21-n))
			if n%3 == 0 {
				oc = remove(t, c, oc, oc.key(nums(10*n%128, 0)))
			}
			hold(t, b, of)
		}
		hold(t, c, oc)
		hold(t, b, of)
		if table.Same(b, c) {
			t.Error(many)
		}
		again := c.Copy().Copy()
		hold(t, again, oc)
		if !table.Same(again, c) {
			t.Error(many)
		}
	}
}

// Two are the same however they came about: the rows count, not what they were ahead of that.
func TestSame(t *testing.T) {
	rows := [][]api.Value{}
	for n := range int64(30) {
		rows = append(rows, nums(1+n, (n*7)%30))
	}
	a, _ := newTable(t, plain(), rows...)
	for seed := range int64(10) {
		r := rand.New(rand.NewSource(seed))
		b, m := newTable(t, plain())
		for _, n := range r.Perm(40) {
			m = insert(t, b, m, nums(int64(80+n), int64(1+n)))
		}
		for _, n := range r.Perm(40) {
			m = remove(t, b, m, m.key(nums(int64(80+n), 0)))
		}
		for at, n := range r.Perm(len(rows)) {
			if table.Same(a, b) || table.Same(b, a) {
				t.Fatal(seed, at)
			}
			m = insert(t, b, m, rows[n])
		}
		if !table.Same(a, b) || !table.Same(b, a) {
			t.Fatal(seed)
		}
		n := int64(r.Intn(30))
		for _, row := range [][]api.Value{nums(1+n, 100), nums(100, (n*7)%30)} { // one value of one row
			c := b.Copy()
			if _, e := c.Update(m.key(nums(1+n, 0)), row...); e != api.OK || table.Same(a, c) || table.Same(c, a) {
				t.Fatal(seed, e)
			}
			if _, e := c.Update(m.key(row), rows[n]...); e != api.OK || !table.Same(a, c) || !table.Same(c, a) {
				t.Fatal(seed, e)
			}
		}
	}
}

// The schema counts, too, all of it; also of tables without rows.
func TestSameSchema(t *testing.T) {
	l := []api.Schema{
		plain(), ints("aB", []int{0}), ints("ab", []int{0}, []int{1}), ints("ab", []int{1}, []int{1}), ints("aC", []int{0}, []int{1}), ints("aB", []int{0}, []int{1, 0}), ints("aB", []int{0}, []int{0, 1}),
		ints("aB", []int{0}, []int{1}, []int{1}), ints("aBC", []int{0}, []int{1}), ints("ab", []int{0, 1}, []int{1}), ints("ab", []int{1, 0}, []int{1}),
	}
	big := plain()
	big.Columns[1].Size = 2
	l = append(l, big)
	uint := plain()
	uint.Columns[1].Type = api.TypeUint
	l = append(l, uint)
	for i, s := range l {
		for j, other := range l {
			a, m := newTable(t, s)
			b, _ := newTable(t, other)
			if table.Same(a, b) != (i == j) {
				t.Error(i, j)
			}
			if row := nums(1, 1); len(s.Columns) == 2 && len(other.Columns) == 2 && i != len(l)-1 && j != len(l)-1 {
				insert(t, a, m, row)
				if table.Same(a, b) || table.Same(b, a) {
					t.Error(i, j)
				}
				if e := b.Insert(row...); e != api.OK || table.Same(a, b) != (i == j) {
					t.Error(i, j, e)
				}
			}
		}
	}
	empty := ints("aB", []int{0})
	empty.Uniques = [][]int{}
	a, _ := newTable(t, empty)
	b, _ := newTable(t, ints("aB", []int{0}))
	if !table.Same(a, b) { // no sets are no sets
		t.Error("nil and empty mean the same")
	}
}

// P12.5: what follows. All tables that there are of some small shapes, and all that may be done to each.
func TestAllOfSmallShapes(t *testing.T) {
	two, three := nums(1, 2), nums(1, 2, 0)
	for n, c := range []struct {
		s      api.Schema
		domain [][]api.Value
		states int
	}{
		{plain(), [][]api.Value{nums(1, 2, 3), three}, 44},
		{ints("abC", []int{1, 0}, []int{2}), [][]api.Value{two, two, three}, 128},
		{ints("aBC", []int{0}, []int{1}, []int{2}), [][]api.Value{two, three, three}, 68},
		{ints("aBC", []int{0}, []int{2, 1}, []int{1, 0}), [][]api.Value{two, three, three}, 96},
	} {
		var rows [][]api.Value
		for at := range c.domain {
			rows = grown(rows, c.domain[at], at == 0)
		}
		b, m := newTable(t, c.s)
		seen := map[string]bool{fmt.Sprint(m.rows): true}
		todo := []struct {
			b *table.Table
			m model
		}{{b, m}}
		for len(todo) > 0 {
			b, m := todo[0].b, todo[0].m
			todo = todo[1:]
			hold(t, b, m)
			for _, next := range all(t, b, m, rows) {
				if s := fmt.Sprint(next.m.rows); !seen[s] {
					seen[s] = true
					todo = append(todo, next)
				}
			}
			hold(t, b, m)
		}
		if len(seen) != c.states {
			t.Errorf("%d: %d tables, not %d", n, len(seen), c.states)
		}
	}
}

// grown are the rows, each with each of these values behind it.
func grown(rows [][]api.Value, vals []api.Value, first bool) (l [][]api.Value) {
	if first {
		rows = [][]api.Value{nil}
	}
	for _, x := range rows {
		for _, v := range vals {
			l = append(l, append(slices.Clone(x), v))
		}
	}
	return l
}

// all does each thing with each row to a copy of a table.
func all(t *testing.T, b *table.Table, m model, rows [][]api.Value) (l []struct {
	b *table.Table
	m model
}) {
	t.Helper()
	try := func(what func(c *table.Table) model) {
		c := b.Copy()
		after := what(c)
		hold(t, c, after)
		l = append(l, struct {
			b *table.Table
			m model
		}{c, after})
	}
	keys := map[string]bool{}
	for _, x := range rows {
		holdNone(t, b, m, x)
		keys[m.key(x)] = true
		try(func(c *table.Table) model { return insert(t, c, m, x) })
		try(func(c *table.Table) model { return ignore(t, c, m, x) })
		try(func(c *table.Table) model { return replace(t, c, m, x) })
	}
	for _, k := range slices.Sorted(maps.Keys(keys)) {
		try(func(c *table.Table) model { return remove(t, c, m, k) })
		for _, x := range rows {
			try(func(c *table.Table) model { return update(t, c, m, k, x) })
		}
	}
	return l
}

// life does to a table what bytes say: the first one which schema it has, and then, of each thing, what it is and with what.
func life(t testing.TB, bytes []byte) {
	t.Helper()
	next := func() int {
		if len(bytes) == 0 {
			return 0
		}
		c := bytes[0]
		bytes = bytes[1:]
		return int(c)
	}
	l := schemas()
	b, m := newTable(t, l[next()%len(l)])
	some := func() (x []api.Value) {
		for _, c := range m.s.Columns {
			vals := values(c)
			x = append(x, vals[next()%len(vals)])
		}
		return x
	}
	type other struct {
		b *table.Table
		m model
	}
	var apart other
	for len(bytes) > 0 {
		switch next() % 8 {
		case 0:
			m = insert(t, b, m, some())
		case 1:
			m = ignore(t, b, m, some())
		case 2:
			m = replace(t, b, m, some())
		case 3:
			m = update(t, b, m, m.key(some()), some())
		case 4:
			if len(m.rows) > 0 {
				m = update(t, b, m, m.key(m.rows[next()%len(m.rows)]), some())
			}
		case 5:
			m = remove(t, b, m, m.key(some()))
		case 6:
			apart = other{b.Copy(), m}
		case 7:
			k := m.key(some())
			if got, want := collect(b.Rows(k)), m.from(k); !same(got, want) {
				t.Fatalf("from %q: %v, not %v", k, got, want)
			}
			holdNone(t, b, m, some())
		}
		hold(t, b, m)
	}
	if apart.b != nil {
		hold(t, apart.b, apart.m)
		if is := sameRows(apart.m.rows, m.rows); table.Same(apart.b, b) != is || table.Same(b, apart.b) != is {
			t.Fatal(is)
		}
	}
}

func TestLives(t *testing.T) {
	for seed := range int64(300) {
		r := rand.New(rand.NewSource(seed))
		bytes := make([]byte, 600)
		r.Read(bytes)
		bytes[0] = byte(seed)
		life(t, bytes)
	}
}

// Whatever happens in a table of many rows, none clash, and each is found.
func TestLivesOfManyRows(t *testing.T) {
	s := api.Schema{Columns: []api.Column{column("a", api.TypeUint, 2, false), column("b", api.TypeInt, 2, true), column("c", api.TypeBytes, 4, true)}, Key: []int{0}, Uniques: [][]int{{1}, {2, 1}}}
	for seed := range int64(4) {
		r := rand.New(rand.NewSource(seed))
		b, m := newTable(t, s)
		some := func() []api.Value {
			x := row(uns(uint64(r.Intn(600))), null(), null())
			if r.Intn(3) > 0 {
				x[1] = num(int64(r.Intn(600)))
			}
			if r.Intn(3) > 0 {
				x[2] = text(fmt.Sprint(r.Intn(60)))
			}
			return x
		}
		for n := range 2500 {
			switch c := r.Intn(10); {
			case c < 5:
				m = insert(t, b, m, some())
			case c < 7:
				m = ignore(t, b, m, some())
			case c < 8:
				m = replace(t, b, m, some())
			case c < 9 && len(m.rows) > 0:
				m = update(t, b, m, m.key(m.rows[r.Intn(len(m.rows))]), some())
			default:
				m = remove(t, b, m, m.key(some()))
			}
			if n%250 == 0 {
				hold(t, b, m)
			}
		}
		hold(t, b, m)
	}
}

func FuzzAnyLife(f *testing.F) {
	f.Add([]byte{0, 0, 3, 4, 2, 3, 4})
	f.Add([]byte("\x01\x00abcd\x02bcde\x04\x00aaaa\x06\x05aaaa"))
	f.Fuzz(func(t *testing.T, bytes []byte) { life(t, bytes[:min(len(bytes), 2000)]) })
}
