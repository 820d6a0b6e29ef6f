package mapping_test

import (
	"fmt"
	"iter"
	"math"
	"math/rand"
	"reflect"
	"slices"
	"strings"
	"testing"

	"swingbridge/api"
	"swingbridge/convert"
	"swingbridge/key"
	"swingbridge/mapping"
	"swingbridge/schema"
)

func null() api.Value                 { return api.Value{} }
func num(n int64) api.Value           { return api.Value{Kind: api.ValueInt, Int: n} }
func uns(n uint64) api.Value          { return api.Value{Kind: api.ValueUint, Uint: n} }
func truth(n int64) api.Value         { return api.Value{Kind: api.ValueBool, Int: n} }
func text(s string) api.Value         { return api.Value{Kind: api.ValueBytes, Bytes: s} }
func long(n int) api.Value            { return text(strings.Repeat("1", n)) }
func none() api.Value                 { return api.Value{Kind: 5} }
func list(l ...api.Value) []api.Value { return l }
func at(l ...int) []int               { return l }

func ints(name string, size int) api.Column {
	return api.Column{Name: name, Type: api.TypeInt, Size: size}
}

func uints(name string, size int) api.Column {
	return api.Column{Name: name, Type: api.TypeUint, Size: size}
}

func truths(name string) api.Column { return api.Column{Name: name, Type: api.TypeBool} }

func texts(name string, size int) api.Column {
	return api.Column{Name: name, Type: api.TypeBytes, Size: size}
}

func columns(l ...api.Column) []api.Column { return l }

func nullable(c api.Column) api.Column {
	c.Null = true
	return c
}

// from are rules that are conversions from these places, and fixed is one that is a value.
func from(places ...int) []api.Rule {
	l := make([]api.Rule, len(places))
	for i, place := range places {
		l[i].From = place
	}
	return l
}

func fixed(v api.Value) api.Rule { return api.Rule{From: -1, Value: v} }

// keyOf tells the key of values, which have one.
func keyOf(l ...api.Value) string {
	s, e := key.Encode(l...)
	if e != api.OK {
		panic(e)
	}
	return s
}

// given is the chapter's mapping, c of so many bytes.
func given(size int) api.Mapping {
	return api.Mapping{
		Old:   api.Schema{Columns: columns(ints("a", 1), ints("b", 2)), Key: at(0)},
		New:   api.Schema{Columns: columns(texts("c", size), uints("d", 1), truths("e")), Key: at(0)},
		Rules: append(from(0, 1), fixed(truth(1))),
	}
}

// wide has sets beside the Key, of two columns, on both sides, and columns that may be null; its shared key is the second unique set of Old, and the first one of New.
func wide() api.Mapping {
	return api.Mapping{
		Old: api.Schema{
			Columns: columns(ints("id", 4), uints("n", 1), nullable(texts("t", 5)), truths("b"), nullable(ints("m", 2))),
			Key:     at(0),
			Uniques: [][]int{{4}, {3, 1}, {1, 3}},
		},
		New: api.Schema{
			Columns: columns(nullable(ints("flag", 1)), texts("id", 11), nullable(uints("t", 2)), ints("n", 2), nullable(texts("m", 6)), nullable(texts("x", 1)), truths("low")),
			Key:     at(1),
			Uniques: [][]int{{0, 3}, {2}},
		},
		Rules:  append(from(3, 0, 2, 1, 4), fixed(null()), api.Rule{From: 1}),
		OldSet: 2,
		NewSet: 1,
	}
}

// with is a mapping, changed, that shares nothing with it.
func with(m api.Mapping, change func(*api.Mapping)) api.Mapping {
	for _, s := range []*api.Schema{&m.Old, &m.New} {
		s.Columns, s.Key, s.Uniques = slices.Clone(s.Columns), slices.Clone(s.Key), slices.Clone(s.Uniques)
	}
	m.Rules = slices.Clone(m.Rules)
	change(&m)
	return m
}

// dueRule and due say over again what the chapter says a mapping may be.
func dueRule(m api.Mapping, i int) api.Errno {
	to, r := m.New.Columns[i], m.Rules[i]
	if r.From == -1 {
		return schema.Fits(to, r.Value)
	}
	if r.From < -1 || r.From > len(m.Old.Columns)-1 {
		return api.ErrRange
	}
	if ways := [2]api.TypeKind{m.Old.Columns[r.From].Type, to.Type}; ways == [2]api.TypeKind{3, 4} || ways == [2]api.TypeKind{4, 3} {
		return api.ErrWay
	}
	return api.OK
}

func setsOf(s api.Schema) [][]int { return slices.Concat([][]int{s.Key}, s.Uniques) }

func due(m api.Mapping) api.Errno {
	for _, s := range []api.Schema{m.Old, m.New} {
		if schema.Check(s) != api.OK {
			return api.ErrArg
		}
	}
	if len(m.Rules) != len(m.New.Columns) {
		return api.ErrCount
	}
	for i := range m.Rules {
		if e := dueRule(m, i); e != api.OK {
			return e
		}
	}
	ones, others := setsOf(m.Old), setsOf(m.New)
	if m.OldSet < 0 || m.NewSet < 0 || m.OldSet >= len(ones) || m.NewSet >= len(others) {
		return api.ErrShared
	}
	one, other := ones[m.OldSet], others[m.NewSet]
	var come []int // where those of the other set come from
	for _, place := range other {
		come = append(come, m.Rules[place].From)
	}
	if !slices.Equal(come, one) {
		return api.ErrShared
	}
	for i := range one {
		a, b := m.Old.Columns[one[i]], m.New.Columns[other[i]]
		if sure, _ := convert.Sure(a, b); a.Null || !sure {
			return api.ErrShared
		}
	}
	return api.OK
}

// dueRow says over again what the row of a row is, of a mapping that may be.
func dueRow(m api.Mapping, row []api.Value) ([]api.Value, api.Errno) {
	if e := schema.Row(m.Old, row...); e != api.OK {
		return nil, e
	}
	var l []api.Value
	for i, to := range m.New.Columns {
		v := m.Rules[i].Value
		if place := m.Rules[i].From; place != -1 {
			var e api.Errno
			if v, e = convert.Convert(m.Old.Columns[place], to, row[place]); e != api.OK {
				return nil, e
			}
		}
		l = append(l, v)
	}
	return l, api.OK
}

// dueUnsure tells the places of the rules that are not sure, of a mapping that may be.
func dueUnsure(m api.Mapping) []int {
	var l []int
	for i, r := range m.Rules {
		if r.From < 0 {
			continue
		}
		if sure, _ := convert.Sure(m.Old.Columns[r.From], m.New.Columns[i]); !sure {
			l = append(l, i)
		}
	}
	return l
}

func values(s api.Schema, number int, row []api.Value) []api.Value {
	var l []api.Value
	for _, place := range setsOf(s)[number] {
		l = append(l, row[place])
	}
	return l
}

// P7.1

// wrongMappings may not be; each is told by its number.
func wrongMappings() map[api.Errno][]api.Mapping {
	g, w := given(4), wide()
	all := map[api.Errno][]api.Mapping{}
	add := func(e api.Errno, m api.Mapping, change func(*api.Mapping)) { all[e] = append(all[e], with(m, change)) }

	all[api.ErrArg] = append(all[api.ErrArg], api.Mapping{})
	add(api.ErrArg, g, func(m *api.Mapping) { m.Old = api.Schema{} })
	add(api.ErrArg, g, func(m *api.Mapping) { m.New = api.Schema{} })
	add(api.ErrArg, g, func(m *api.Mapping) { m.New, m.Rules = api.Schema{}, nil })
	add(api.ErrArg, g, func(m *api.Mapping) { m.Old.Key = nil })
	add(api.ErrArg, g, func(m *api.Mapping) { m.New.Key = at(3) })
	add(api.ErrArg, g, func(m *api.Mapping) { m.Old.Columns = columns(ints("a", 1), ints("a", 2)) })
	add(api.ErrArg, g, func(m *api.Mapping) { m.New.Columns = columns(texts("c", 4), uints("d", 3), truths("e")) })
	add(api.ErrArg, g, func(m *api.Mapping) { m.New.Columns = make([]api.Column, 100000) })
	add(api.ErrArg, g, func(m *api.Mapping) { m.Old.Columns = columns(ints("a", 0), ints("b", 2)) })
	add(api.ErrArg, g, func(m *api.Mapping) { m.Old.Uniques = make([][]int, 4) })
	add(api.ErrArg, g, func(m *api.Mapping) { m.Old, m.Rules, m.OldSet = api.Schema{}, nil, 9 }) // ahead of all others
	add(api.ErrArg, g, func(m *api.Mapping) { m.New.Key, m.Rules, m.OldSet = at(0, 0), nil, 9 })
	add(api.ErrArg, g, func(m *api.Mapping) { m.New.Key, m.Rules = at(-1), from(9, 9, 9) })
	add(api.ErrArg, g, func(m *api.Mapping) { m.Rules = append(from(0, 1), fixed(none())) })
	add(api.ErrArg, g, func(m *api.Mapping) { m.Rules = append(from(0, 1), fixed(truth(2))) })
	add(api.ErrArg, g, func(m *api.Mapping) {
		m.Rules = append(from(0, 1), fixed(api.Value{Kind: api.ValueBool, Int: 1, Uint: 1}))
	})

	add(api.ErrCount, g, func(m *api.Mapping) { m.Rules = nil })
	add(api.ErrCount, g, func(m *api.Mapping) { m.Rules = []api.Rule{} })
	add(api.ErrCount, g, func(m *api.Mapping) { m.Rules = from(0, 1) })
	add(api.ErrCount, g, func(m *api.Mapping) { m.Rules = from(0, 1, 0, 0) })
	add(api.ErrCount, g, func(m *api.Mapping) { m.Rules = make([]api.Rule, 100000) })
	add(api.ErrCount, g, func(m *api.Mapping) { m.Rules, m.OldSet, m.NewSet = from(9, -2, 0, 0), 7, 7 })
	add(api.ErrCount, g, func(m *api.Mapping) { m.Rules = []api.Rule{fixed(none()), fixed(null())} })

	for _, place := range []int{2, 3, 8, math.MaxInt, -2, -3, math.MinInt, 1 << 32} {
		add(api.ErrRange, g, func(m *api.Mapping) { m.Rules = append(from(0, place), fixed(truth(1))) })
		add(api.ErrRange, g, func(m *api.Mapping) { m.Rules = from(0, 1, place) })
		add(api.ErrRange, g, func(m *api.Mapping) { m.Rules = from(place, 0, 0) }) // ahead of ErrWay further on
		add(api.ErrRange, g, func(m *api.Mapping) { m.Rules = append(from(place, 0), fixed(null())) })
		add(api.ErrRange, g, func(m *api.Mapping) { m.Rules, m.OldSet = from(0, 0, place), 9 }) // ahead of ErrShared
		add(api.ErrRange, g, func(m *api.Mapping) {
			m.Rules = append(from(0, 1), api.Rule{From: place, Value: none()})
		})
	}

	add(api.ErrNull, g, func(m *api.Mapping) { m.Rules = append(from(0, 1), fixed(null())) })
	add(api.ErrNull, g, func(m *api.Mapping) { m.Rules = append([]api.Rule{fixed(null())}, from(9, 9)...) })
	add(api.ErrType, g, func(m *api.Mapping) { m.Rules = append(from(0, 1), fixed(num(1))) })
	add(api.ErrType, g, func(m *api.Mapping) { m.Rules = append(from(0, 1), fixed(text("1"))) })
	add(api.ErrType, g, func(m *api.Mapping) { m.Rules = []api.Rule{{}, fixed(num(1)), fixed(none())} })
	add(api.ErrSize, g, func(m *api.Mapping) { m.Rules = []api.Rule{{}, fixed(uns(256)), fixed(truth(1))} })
	add(api.ErrSize, g, func(m *api.Mapping) { m.Rules, m.NewSet = []api.Rule{fixed(text("12345")), {}, {}}, 4 })
	add(api.ErrLong, g, func(m *api.Mapping) { m.Rules = append(from(0, 1), fixed(long(201))) })
	add(api.ErrLong, g, func(m *api.Mapping) { m.Rules = []api.Rule{fixed(long(100000)), {From: -9}, {From: -9}} })

	add(api.ErrWay, w, func(m *api.Mapping) { m.Rules = append(from(3, 0, 2, 1, 3), fixed(null()), api.Rule{From: 1}) }) // a truth as bytes
	add(api.ErrWay, w, func(m *api.Mapping) { m.Rules = append(from(3, 0, 2, 1, 4), fixed(null()), api.Rule{From: 2}) }) // bytes as a truth
	add(api.ErrWay, w, func(m *api.Mapping) { m.Rules = append(from(3, 3, 2, 1, 4), fixed(none()), api.Rule{From: 9}) }) // from the left
	add(api.ErrWay, w, func(m *api.Mapping) {
		m.Rules, m.OldSet, m.NewSet = append(from(3, 0, 2, 1, 4, 3), api.Rule{From: 1}), -1, 9
	})

	for _, set := range []int{-1, -2, math.MinInt, 4, 5, math.MaxInt, 1 << 32} {
		add(api.ErrShared, w, func(m *api.Mapping) { m.OldSet = set })
		add(api.ErrShared, w, func(m *api.Mapping) { m.NewSet = set })
		add(api.ErrShared, w, func(m *api.Mapping) { m.OldSet, m.NewSet = set, set })
		add(api.ErrShared, g, func(m *api.Mapping) { m.OldSet = set })
		add(api.ErrShared, g, func(m *api.Mapping) { m.NewSet = set })
		add(api.ErrShared, g, func(m *api.Mapping) { m.OldSet, m.NewSet = set, set })
	}
	add(api.ErrShared, g, func(m *api.Mapping) { m.OldSet = 1 })
	add(api.ErrShared, g, func(m *api.Mapping) { m.NewSet = 1 })
	add(api.ErrShared, w, func(m *api.Mapping) { m.NewSet = 3 })
	add(api.ErrShared, w, func(m *api.Mapping) { m.OldSet, m.NewSet = 1, 2 }) // other columns
	add(api.ErrShared, w, func(m *api.Mapping) { m.OldSet = 3 })              // in another order
	add(api.ErrShared, w, func(m *api.Mapping) { m.OldSet = 0 })              // of fewer columns
	add(api.ErrShared, w, func(m *api.Mapping) { m.NewSet = 0 })
	add(api.ErrShared, w, func(m *api.Mapping) { m.New.Uniques = [][]int{{0, 3, 1}, {2}} }) // of more, the first ones as they are due
	add(api.ErrShared, w, func(m *api.Mapping) { m.New.Uniques = [][]int{{0}, {2}} })
	add(api.ErrShared, w, func(m *api.Mapping) { m.Old.Uniques = [][]int{{4}, {3, 1, 0}} })
	add(api.ErrShared, w, func(m *api.Mapping) { m.Old.Uniques = [][]int{{4}, {3}} })
	add(api.ErrShared, w, func(m *api.Mapping) { m.New.Uniques = [][]int{{3, 0}, {2}} })
	add(api.ErrShared, w, func(m *api.Mapping) { m.Old.Columns[3].Null = true }) // it may be null, as the other may
	add(api.ErrShared, w, func(m *api.Mapping) { m.Rules = append(from(1, 0, 2, 3, 4), fixed(null()), api.Rule{From: 1}) })
	add(api.ErrShared, w, func(m *api.Mapping) { m.Rules = append(from(3, 0, 2, 0, 4), fixed(null()), api.Rule{From: 1}) })
	add(api.ErrShared, w, func(m *api.Mapping) { m.Rules[3] = fixed(num(1)) }) // always the same value
	for size := 1; size <= 3; size++ {
		all[api.ErrShared] = append(all[api.ErrShared], given(size))
	}
	add(api.ErrShared, g, func(m *api.Mapping) { m.Rules = append(from(1, 0), fixed(truth(1))) })
	add(api.ErrShared, g, func(m *api.Mapping) { m.Rules = append([]api.Rule{fixed(text("1"))}, from(0, 0)...) })
	add(api.ErrShared, g, func(m *api.Mapping) { m.New.Key = at(1) })
	add(api.ErrShared, g, func(m *api.Mapping) { m.Old.Key = at(1) })
	return all
}

func TestCheck(t *testing.T) {
	for i, m := range rightMappings() {
		if e := mapping.Check(m); e != api.OK {
			t.Error(i, e)
		}
	}
	for e, l := range wrongMappings() {
		for i, m := range l {
			if f := mapping.Check(m); f != e || due(m) != e {
				t.Errorf("error %d, %d: %v, %v", e, i, f, due(m))
			}
		}
	}
}

// rightMappings may be.
func rightMappings() []api.Mapping {
	g, w := given(4), wide()
	all := []api.Mapping{g, w, given(5), given(200)}
	add := func(m api.Mapping, change func(*api.Mapping)) { all = append(all, with(m, change)) }
	add(g, func(m *api.Mapping) { m.New = m.Old; m.Rules = from(0, 1) })
	add(g, func(m *api.Mapping) { m.New = m.Old; m.Rules = from(0, 0) }) // two from one
	add(g, func(m *api.Mapping) { m.New = m.Old; m.Rules = append(from(0), fixed(num(-7))) })
	add(g, func(m *api.Mapping) { m.Old.Uniques, m.New.Uniques = [][]int{}, [][]int{} })
	add(g, func(m *api.Mapping) {
		m.Old.Columns = columns(uints("a", 2), ints("b", 2))
		m.New.Columns = given(5).New.Columns
	})
	add(g, func(m *api.Mapping) {
		m.Old.Columns = columns(truths("a"), ints("b", 2))
		m.New.Columns[0] = uints("c", 1)
	})
	// of a conversion the Value says nothing
	add(g, func(m *api.Mapping) {
		m.Rules = []api.Rule{{From: 0, Value: none()}, {From: 1, Value: long(201)}, fixed(truth(0))}
	})
	// the Key of the one, a unique set of the other
	add(w, func(m *api.Mapping) { m.Old.Uniques[0], m.New.Uniques[0], m.OldSet, m.NewSet = at(0), at(1), 1, 1 })
	add(w, func(m *api.Mapping) { m.OldSet, m.NewSet = 0, 0 })
	add(w, func(m *api.Mapping) { m.New.Key, m.OldSet, m.NewSet, m.Old.Uniques[0] = at(3), 1, 0, at(1) })
	add(w, func(m *api.Mapping) { m.New.Uniques[0] = at(3, 0); m.OldSet = 3 })
	// as many columns as there may be, in a set of four
	many := api.Schema{Key: at(7, 0, 3, 5)}
	for i := range api.MaxColumns {
		many.Columns = append(many.Columns, uints(fmt.Sprint("c", i), 8))
	}
	return append(all, api.Mapping{Old: many, New: many, Rules: from(0, 1, 2, 3, 4, 5, 6, 7)})
}

// placed is a rule, and the place of its column.
type placed struct {
	at int
	r  api.Rule
}

func over(all iter.Seq2[int, api.Rule], most int) []placed {
	var l []placed
	for i, r := range all {
		if l = append(l, placed{i, r}); len(l) == most {
			break
		}
	}
	return l
}

func TestUnsure(t *testing.T) {
	odd := with(given(4), func(m *api.Mapping) { m.Rules[1].Value = none() })
	for i, c := range []struct {
		m api.Mapping
		l []placed
	}{
		{given(4), []placed{{1, api.Rule{From: 1}}}},
		{odd, []placed{{1, api.Rule{From: 1, Value: none()}}}}, // the rule as it is
		{wide(), []placed{{2, api.Rule{From: 2}}, {6, api.Rule{From: 1}}}},
		{with(given(4), func(m *api.Mapping) { m.New, m.Rules = m.Old, from(0, 1) }), nil},
		{with(given(4), func(m *api.Mapping) { m.New, m.Rules = m.Old, append(from(0), fixed(num(1))) }), nil},
		{with(given(4), func(m *api.Mapping) { m.New.Columns[1] = ints("d", 2) }), nil},
		{with(given(4), func(m *api.Mapping) { m.Rules[2] = api.Rule{From: 0} }), []placed{{1, api.Rule{From: 1}}, {2, api.Rule{}}}},
		{with(wide(), func(m *api.Mapping) { m.New.Columns[4].Null = false }), []placed{{2, api.Rule{From: 2}}, {4, api.Rule{From: 4}}, {6, api.Rule{From: 1}}}},
		{given(3), nil},
		{api.Mapping{}, nil},
	} {
		all := mapping.Unsure(c.m)
		for range 3 {
			if l := over(all, 99); !slices.Equal(l, c.l) {
				t.Errorf("%d: %v, not %v", i, l, c.l)
			}
		}
		for most := 1; most <= len(c.l); most++ { // left, and gone over again
			if l := over(all, most); !slices.Equal(l, c.l[:most]) {
				t.Errorf("%d: %v, not %v", i, l, c.l[:most])
			}
		}
		var outer []placed
		for place, r := range all { // one within another
			outer = append(outer, placed{place, r})
			if inner := over(all, len(outer)); !slices.Equal(inner, c.l[:len(outer)]) {
				t.Error(i, inner)
			}
		}
		if !slices.Equal(outer, c.l) {
			t.Error(i, outer)
		}
	}
	for e, l := range wrongMappings() {
		for _, m := range l {
			if l := over(mapping.Unsure(m), 99); l != nil {
				t.Error(e, l)
			}
		}
	}
}

// What is written over a mapping behind the call is not seen.
func TestUnsureKeepsNothing(t *testing.T) {
	m := wide()
	all := mapping.Unsure(m)
	want := over(all, 99)
	clear(m.Rules)
	clear(m.Old.Columns)
	clear(m.New.Columns)
	clear(m.New.Key)
	if l := over(all, 99); !slices.Equal(l, want) || len(want) != 2 {
		t.Error(l)
	}
}

// A panic of who goes over the rules is his.
func TestUnsureLetsOthersPanic(t *testing.T) {
	for _, thrown := range []any{"mine", api.ErrOver, fmt.Errorf("mine: %w", api.ErrKey)} {
		func() {
			defer func() {
				if given := recover(); given != thrown {
					t.Error(given)
				}
			}()
			for range mapping.Unsure(wide()) {
				panic(thrown)
			}
		}()
	}
}

// P7.2

func TestRow(t *testing.T) {
	w := func(l ...api.Value) []api.Value { return l }
	for i, c := range []struct {
		m   api.Mapping
		row []api.Value
		l   []api.Value
		e   api.Errno
	}{
		{given(4), w(num(-5), num(200)), w(text("-5"), uns(200), truth(1)), api.OK},
		{given(4), w(num(-128), num(255)), w(text("-128"), uns(255), truth(1)), api.OK},
		{given(4), w(num(0), num(0)), w(text("0"), uns(0), truth(1)), api.OK},
		{given(4), w(num(1), num(256)), nil, api.ErrOver},
		{given(4), w(num(1), num(-1)), nil, api.ErrOver},
		{wide(), w(num(-2147483648), uns(1), text("65535"), truth(1), num(-32768)), w(num(1), text("-2147483648"), uns(65535), num(1), text("-32768"), null(), truth(1)), api.OK},
		{wide(), w(num(7), uns(0), null(), truth(0), null()), w(num(0), text("7"), null(), num(0), null(), null(), truth(0)), api.OK},
		{wide(), w(num(7), uns(2), null(), truth(0), null()), nil, api.ErrOver},
		{wide(), w(num(7), uns(1), text("65536"), truth(0), null()), nil, api.ErrOver},
		{wide(), w(num(7), uns(1), text("01"), truth(0), null()), nil, api.ErrOver},
		{wide(), w(num(7), uns(1), text(""), truth(0), null()), nil, api.ErrOver},
		{with(wide(), func(m *api.Mapping) { m.New.Columns[4].Null = false }), w(num(7), uns(1), null(), truth(0), null()), nil, api.ErrOver},
		{with(wide(), func(m *api.Mapping) { m.Rules[5] = fixed(text("q")) }), w(num(7), uns(1), null(), truth(0), null()), w(num(0), text("7"), null(), num(1), null(), text("q"), truth(1)), api.OK},

		{given(4), nil, nil, api.ErrCount},
		{given(4), w(num(1)), nil, api.ErrCount},
		{given(4), w(num(1), num(1), num(1)), nil, api.ErrCount},
		{given(4), w(text("1"), uns(1), truth(1)), nil, api.ErrCount}, // a row of New
		{given(4), w(none()), nil, api.ErrCount},
		{given(4), make([]api.Value, 100000), nil, api.ErrCount},
		{given(4), w(num(128), num(256)), nil, api.ErrSize},
		{given(4), w(num(1), num(32768)), nil, api.ErrSize},
		{given(4), w(null(), num(1)), nil, api.ErrNull},
		{given(4), w(num(1), null()), nil, api.ErrNull},
		{given(4), w(uns(1), num(1)), nil, api.ErrType},
		{given(4), w(num(1), text("1")), nil, api.ErrType},
		{given(4), w(num(1), long(201)), nil, api.ErrLong},
		{given(4), w(num(1), none()), nil, api.ErrArg},
		{given(4), w(num(128), none()), nil, api.ErrSize}, // from the left
		{given(4), w(none(), num(32768)), nil, api.ErrArg},
		{wide(), w(num(7), uns(2), text("x"), truth(0), none()), nil, api.ErrArg}, // ahead of ErrOver
		{wide(), w(num(7), uns(2), text("x"), truth(0), num(32768)), nil, api.ErrSize},
		{wide(), w(num(7), uns(2), text("123456"), truth(0), null()), nil, api.ErrSize},
		{given(3), w(num(128), num(256)), nil, api.ErrShared},
		{given(3), nil, nil, api.ErrShared},
	} {
		if l, e := mapping.Row(c.m, c.row...); !slices.Equal(l, c.l) || e != c.e || e != api.OK && l != nil {
			t.Errorf("%d: %v, %v, not %v, %v", i, l, e, c.l, c.e)
		}
	}
}

// A mapping that may not be is told ahead of what is wrong with rows and keys.
func TestMappingsErrorsAreFirst(t *testing.T) {
	rows := [][]api.Value{nil, list(num(1), num(1)), list(num(1), num(256)), list(none()), list(text("1"), uns(1), truth(1)), list(num(7), uns(1), null(), truth(0), null())}
	for e, l := range wrongMappings() {
		for i, m := range l {
			for _, row := range rows {
				if made, f := mapping.Row(m, row...); f != e || made != nil {
					t.Errorf("error %d, %d: Row %v, %v", e, i, made, f)
				}
				if s, f := mapping.OldKey(m, row...); f != e || s != "" {
					t.Errorf("error %d, %d: OldKey %x, %v", e, i, s, f)
				}
				if s, f := mapping.NewKey(m, row...); f != e || s != "" {
					t.Errorf("error %d, %d: NewKey %x, %v", e, i, s, f)
				}
			}
			for _, old := range []string{"", "x", keyOf(num(1)), keyOf(truth(1), uns(1))} {
				if s, f := mapping.Turn(m, old); f != e || s != "" {
					t.Errorf("error %d, %d: Turn %x, %v", e, i, s, f)
				}
			}
		}
	}
}

// P7.3

func TestKeys(t *testing.T) {
	both := func(of func(m api.Mapping, row ...api.Value) (string, api.Errno), m api.Mapping, row []api.Value, want string, e api.Errno) {
		t.Helper()
		if s, f := of(m, row...); s != want || f != e {
			t.Errorf("%v: %x, %v, not %x, %v", row, s, f, want, e)
		}
	}
	old, now := mapping.OldKey, mapping.NewKey
	both(old, given(4), list(num(7), num(9)), keyOf(num(7)), api.OK)
	both(old, given(4), list(num(7), num(256)), keyOf(num(7)), api.OK) // it has a shared key, but no row
	both(now, given(4), list(text("7"), uns(9), truth(0)), keyOf(text("7")), api.OK)
	both(now, given(4), list(text("x"), uns(9), truth(0)), keyOf(text("x")), api.OK) // a row that is no row's row
	both(old, wide(), list(num(7), uns(200), text("x"), truth(1), null()), keyOf(truth(1), uns(200)), api.OK)
	both(now, wide(), list(num(1), text("7"), null(), num(200), null(), text("y"), truth(1)), keyOf(num(1), num(200)), api.OK)
	both(now, wide(), list(null(), text("7"), null(), num(-200), null(), null(), truth(1)), keyOf(null(), num(-200)), api.OK)

	both(old, given(4), nil, "", api.ErrCount)
	both(now, given(4), nil, "", api.ErrCount)
	both(old, given(4), list(text("7"), uns(9), truth(0)), "", api.ErrCount)
	both(now, given(4), list(num(7), num(9)), "", api.ErrCount)
	both(old, given(4), list(num(7), none()), "", api.ErrArg) // what is not in the set, too
	both(old, given(4), list(num(7), long(201)), "", api.ErrLong)
	both(old, given(4), list(num(7), null()), "", api.ErrNull)
	both(old, given(4), list(num(7), uns(1)), "", api.ErrType)
	both(old, given(4), list(num(128), none()), "", api.ErrSize)
	both(now, given(4), list(text("7"), uns(9), none()), "", api.ErrArg)
	both(now, given(4), list(text("7"), uns(9), long(201)), "", api.ErrLong)
	both(now, given(4), list(text("7"), uns(9), null()), "", api.ErrNull)
	both(now, given(4), list(text("7"), num(9), truth(0)), "", api.ErrType)
	both(now, given(4), list(text("12345"), uns(9), none()), "", api.ErrSize)
}

func TestTurn(t *testing.T) {
	quad := rightMappings()[len(rightMappings())-1]
	most := list(uns(math.MaxUint64), uns(0), uns(1<<63), uns(255))
	for i, c := range []struct {
		m        api.Mapping
		old, now string
		e        api.Errno
	}{
		{given(4), keyOf(num(7)), keyOf(text("7")), api.OK},
		{given(4), keyOf(num(-128)), keyOf(text("-128")), api.OK},
		{wide(), keyOf(truth(1), uns(255)), keyOf(num(1), num(255)), api.OK},
		{wide(), keyOf(truth(0), uns(0)), keyOf(num(0), num(0)), api.OK},
		{quad, keyOf(most...), keyOf(most...), api.OK},

		{given(4), "", "", api.ErrKey},
		{given(4), keyOf(), "", api.ErrKey},
		{given(4), keyOf(num(7), num(9)), "", api.ErrKey},
		{given(4), keyOf(null()), "", api.ErrKey},
		{given(4), keyOf(num(128)), "", api.ErrKey},
		{given(4), keyOf(num(-129)), "", api.ErrKey},
		{given(4), keyOf(uns(7)), "", api.ErrKey},
		{given(4), keyOf(truth(1)), "", api.ErrKey},
		{given(4), keyOf(text("7")), "", api.ErrKey}, // a new one
		{given(4), keyOf(num(7))[:8], "", api.ErrKey},
		{given(4), keyOf(num(7)) + "\x00", "", api.ErrKey},
		{given(4), key.Behind(keyOf(num(7))), "", api.ErrKey},
		{given(4), key.All(keyOf(num(7))), "", api.ErrKey},
		{given(4), "\x05", "", api.ErrKey},
		{given(4), "\xff", "", api.ErrKey},
		{given(4), strings.Repeat("\x00", 100000), "", api.ErrKey},
		{wide(), keyOf(truth(1)), "", api.ErrKey},
		{wide(), keyOf(truth(1), uns(1), uns(1)), "", api.ErrKey},
		{wide(), keyOf(uns(1), truth(1)), "", api.ErrKey},
		{wide(), keyOf(truth(1), uns(256)), "", api.ErrKey},
		{wide(), keyOf(null(), uns(1)), "", api.ErrKey},
		{wide(), keyOf(truth(1), null()), "", api.ErrKey},
		{wide(), keyOf(num(7)), "", api.ErrKey}, // of another set
		{quad, keyOf(most[:3]...), "", api.ErrKey},
		{quad, keyOf(append(most, uns(1))...), "", api.ErrKey},
		{given(3), "", "", api.ErrShared},
	} {
		if s, e := mapping.Turn(c.m, c.old); s != c.now || e != c.e {
			t.Errorf("%d: %x, %v, not %x, %v", i, s, e, c.now, c.e)
		}
	}
}

// P7.1 to P7.4, with any mappings.

var names = strings.Split("a b_1 c d e2 f g h", " ")

func someColumn(r *rand.Rand, name string) api.Column {
	size := []int{1, 2, 4, 8}[r.Intn(4)]
	c := []api.Column{ints(name, size), uints(name, size), truths(name), texts(name, 1+r.Intn(21))}[r.Intn(4)]
	c.Null = r.Intn(4) == 0
	return c
}

// widened is a column that takes all that another one has.
func widened(r *rand.Rand, c api.Column) api.Column {
	for {
		if w := someColumn(r, c.Name); w.Null || !c.Null {
			if sure, _ := convert.Sure(c, w); sure {
				return w
			}
		}
	}
}

func someSet(r *rand.Rand, l []api.Column, null bool) []int {
	var places []int
	for _, place := range r.Perm(len(l)) {
		if (null || !l[place].Null) && len(places) < 1+r.Intn(4) && len(places) < 4 {
			places = append(places, place)
		}
	}
	return places
}

// side is a schema of these columns one of whose sets, which may be told, these places are.
func side(r *rand.Rand, l []api.Column, places []int) (api.Schema, int) {
	s := api.Schema{Columns: l, Key: places}
	for range r.Intn(3) {
		s.Uniques = append(s.Uniques, someSet(r, l, true))
	}
	number := 0
	key := someSet(r, l, false)
	if null := slices.ContainsFunc(places, func(place int) bool { return l[place].Null }); null || r.Intn(2) == 0 && len(key) > 0 {
		s.Key = key
		s.Uniques = append(s.Uniques, places)
		number = len(s.Uniques)
	}
	return s, number
}

// someMapping may be, but where no column is left for the Key of New.
func someMapping(r *rand.Rand) api.Mapping {
	var m api.Mapping
	olds := make([]api.Column, 1+r.Intn(7))
	for i := range olds {
		olds[i] = someColumn(r, names[i])
	}
	one := r.Perm(len(olds))[:1+r.Intn(min(3, len(olds)))]
	for _, place := range one {
		olds[place].Null = false
	}
	m.Old, m.OldSet = side(r, olds, one)

	news, rules := make([]api.Column, len(one)+r.Intn(9-len(one))), []api.Rule(nil)
	for i := range news {
		var c api.Column
		rule := api.Rule{From: r.Intn(len(olds))}
		if i < len(one) {
			rule.From = one[i]
		}
		switch c = olds[rule.From]; {
		case i < len(one), r.Intn(3) == 0:
			c = widened(r, c)
		case r.Intn(4) == 0:
			c = someColumn(r, "a")
			rule = fixed(someValue(r, c))
		default:
			for c = someColumn(r, "a"); !convert.Way(olds[rule.From].Type, c.Type); {
				c = someColumn(r, "a")
			}
		}
		news[i], rules = c, append(rules, rule)
	}
	shuffled := r.Perm(len(news))
	other := make([]int, len(one))
	columns := make([]api.Column, len(news))
	m.Rules = make([]api.Rule, len(news))
	for i, place := range shuffled {
		columns[place], m.Rules[place] = news[i], rules[i]
		columns[place].Name = names[place]
		if i < len(one) {
			other[i] = place
		}
	}
	m.New, m.NewSet = side(r, columns, other)
	return m
}

// spoiled is a mapping where some things are something else.
func spoiled(r *rand.Rand, m api.Mapping) api.Mapping {
	for range 1 + r.Intn(2) {
		i := r.Intn(len(m.Rules) + 1)
		s := []*api.Schema{&m.Old, &m.New}[r.Intn(2)]
		c := &s.Columns[r.Intn(len(s.Columns))]
		switch r.Intn(13) {
		case 0:
			m.OldSet = r.Intn(6) - 1
		case 1:
			m.NewSet = r.Intn(6) - 1
		case 2:
			m.Rules = append(m.Rules[:i:i], m.Rules[min(i+1, len(m.Rules)):]...)
		case 3:
			m.Rules = slices.Insert(slices.Clone(m.Rules), i, api.Rule{})
		case 4, 5:
			if i < len(m.Rules) {
				m.Rules[i].From = r.Intn(len(m.Old.Columns)+4) - 2
			}
		case 6:
			if i < len(m.Rules) {
				m.Rules[i].Value = someValue(r, someColumn(r, "a"))
			}
		case 7:
			c.Null = !c.Null
		case 8:
			*c = someColumn(r, c.Name)
		case 9:
			c.Size = c.Size/2 + r.Intn(2)
		case 10:
			s.Key = someSet(r, s.Columns, r.Intn(4) == 0)
		case 11:
			if len(s.Uniques) > 0 {
				s.Uniques[r.Intn(len(s.Uniques))] = someSet(r, s.Columns, true)
			}
		case 12:
			if i < len(m.Rules) {
				m.Rules[i] = fixed([]api.Value{none(), long(201), null(), uns(300), num(300), long(199)}[r.Intn(6)])
			}
		}
		if len(m.Rules) == 0 {
			return m
		}
	}
	return m
}

// someValue fits a column; many are at its bounds, many are small.
func someValue(r *rand.Rand, c api.Column) api.Value {
	if c.Null && r.Intn(4) == 0 {
		return null()
	}
	bits := 8 * c.Size
	n := []uint64{0, 1, 2, 9, 10, 99, 255, 256, math.MaxUint64, math.MaxInt64, 1 << 63, r.Uint64() >> r.Intn(64)}[r.Intn(12)]
	switch c.Type {
	case api.TypeInt:
		return num(int64(n<<(64-bits)) >> (64 - bits))
	case api.TypeUint:
		return uns(n << (64 - bits) >> (64 - bits))
	case api.TypeBool:
		return truth(int64(n & 1))
	}
	s := []string{"", fmt.Sprint(n), fmt.Sprint(int64(n)), fmt.Sprint(-int64(n % 100)), "x", strings.Repeat("y", c.Size)}[r.Intn(6)]
	return text(s[:min(len(s), c.Size)])
}

func someRow(r *rand.Rand, s api.Schema) []api.Value {
	var l []api.Value
	for _, c := range s.Columns {
		l = append(l, someValue(r, c))
	}
	return l
}

func TestCheckIsAsTheChapterSays(t *testing.T) {
	r := rand.New(rand.NewSource(1))
	seen := map[api.Errno]int{}
	for range 40000 {
		m := someMapping(r)
		if r.Intn(4) > 0 {
			m = spoiled(r, m)
		}
		e := mapping.Check(m)
		if want := due(m); e != want {
			t.Fatalf("%+v: %v, not %v", m, e, want)
		}
		seen[e]++
		var l []int
		for place, rule := range mapping.Unsure(m) {
			if l = append(l, place); rule != m.Rules[place] {
				t.Fatalf("%+v: %v", m, rule)
			}
		}
		if e == api.OK && !slices.Equal(l, dueUnsure(m)) || e != api.OK && l != nil {
			t.Fatalf("%+v: %v", m, l)
		}
	}
	for _, e := range []api.Errno{api.OK, api.ErrArg, api.ErrCount, api.ErrRange, api.ErrLong, api.ErrNull, api.ErrType, api.ErrSize, api.ErrWay, api.ErrShared} {
		if seen[e] < 50 {
			t.Error("seen too seldom:", e, seen[e])
		}
	}
}

// mappingThatMayBe is one.
func mappingThatMayBe(r *rand.Rand) api.Mapping {
	for {
		if m := someMapping(r); mapping.Check(m) == api.OK {
			return m
		}
	}
}

func TestRowsAreAsTheChapterSays(t *testing.T) {
	r := rand.New(rand.NewSource(2))
	seen := map[api.Errno]int{}
	for range 3000 {
		m := mappingThatMayBe(r)
		for range 8 {
			row := someRow(r, m.Old)
			if r.Intn(4) == 0 {
				row[r.Intn(len(row))] = []api.Value{none(), long(201), null(), num(300), text("300"), truth(0)}[r.Intn(6)]
			}
			l, e := mapping.Row(m, row...)
			if want, f := dueRow(m, row); !slices.Equal(l, want) || e != f {
				t.Fatalf("%+v, %v: %v, %v, not %v, %v", m, row, l, e, want, f)
			}
			seen[e]++
			old, f := mapping.OldKey(m, row...)
			if g := schema.Row(m.Old, row...); f != g || f == api.OK && old != keyOf(values(m.Old, m.OldSet, row)...) || f != api.OK && old != "" {
				t.Fatalf("%+v, %v: %x, %v, not %v", m, row, old, f, g)
			}
			other := someRow(r, m.New)
			if now, g := mapping.NewKey(m, other...); g != api.OK || now != keyOf(values(m.New, m.NewSet, other)...) {
				t.Fatalf("%+v, %v: %x, %v", m, other, now, g)
			}
		}
	}
	for _, e := range []api.Errno{api.OK, api.ErrArg, api.ErrLong, api.ErrNull, api.ErrType, api.ErrSize, api.ErrOver} {
		if seen[e] < 50 {
			t.Error("seen too seldom:", e, seen[e])
		}
	}
}

// P7.4

func TestTheRowOfARowFitsAndItsKeyIsTurned(t *testing.T) {
	r := rand.New(rand.NewSource(3))
	alike, unlike := 0, 0
	for range 2500 {
		m := mappingThatMayBe(r)
		turned, back := map[string]string{}, map[string]string{}
		for range 12 {
			row := someRow(r, m.Old)
			old, e := mapping.OldKey(m, row...)
			if e != api.OK {
				t.Fatal(row, e)
			}
			s, e := mapping.Turn(m, old) // of rows that have no row, too
			if e != api.OK {
				t.Fatalf("%+v, %x: %v", m, old, e)
			}
			l, e := mapping.Row(m, row...)
			if e != api.OK {
				continue
			}
			if e := schema.Row(m.New, l...); e != api.OK {
				t.Fatalf("%+v, %v: %v, %v", m, row, l, e)
			}
			now, e := mapping.NewKey(m, l...)
			if e != api.OK || now != s {
				t.Fatalf("%+v, %v: %x, %v, not %x", m, row, now, e, s)
			}
			was, is := turned[old]
			from, isToo := back[now]
			if is != isToo || is && (was != now || from != old) {
				t.Fatalf("%+v, %v: %x and %x, %x and %x", m, row, was, now, from, old)
			}
			if is {
				alike++
			} else {
				unlike++
			}
			turned[old], back[now] = now, old
		}
	}
	if alike < 1000 || unlike < 1000 {
		t.Error("too few of the one, or of the other:", alike, unlike)
	}
}

func TestWhereNoRuleIsUnsureEachRowHasARow(t *testing.T) {
	r := rand.New(rand.NewSource(4))
	sure, refused := 0, 0
	for range 8000 {
		m := mappingThatMayBe(r)
		is := len(over(mapping.Unsure(m), 1)) == 0
		if is {
			sure++
		}
		for range 4 {
			row := someRow(r, m.Old)
			_, e := mapping.Row(m, row...)
			if is && e != api.OK {
				t.Fatalf("%+v, %v: %v", m, row, e)
			}
			if e != api.OK {
				refused++
			}
		}
	}
	if sure < 500 || refused < 1000 {
		t.Error("too few of the one, or of the other:", sure, refused)
	}
}

// Each key that Turn takes is that of a row: what is changed in one is refused, or the key of another row.
func TestTurnRefusesWhatNoRowHas(t *testing.T) {
	r := rand.New(rand.NewSource(5))
	seen := map[api.Errno]int{}
	for range 10000 {
		m := mappingThatMayBe(r)
		old, _ := mapping.OldKey(m, someRow(r, m.Old)...)
		b := []byte(old)
		switch i := r.Intn(len(b)); r.Intn(3) {
		case 0:
			b[i] ^= 1 << r.Intn(8)
		case 1:
			b = b[:i]
		case 2:
			b = slices.Insert(b, i, byte(r.Intn(6)))
		}
		s, e := mapping.Turn(m, string(b))
		want, f := dueTurn(m, string(b))
		if s != want || e != f {
			t.Fatalf("%+v, %x: %x, %v, not %x, %v", m, b, s, e, want, f)
		}
		seen[e]++
	}
	if seen[api.OK] < 100 || seen[api.ErrKey] < 1000 {
		t.Error("too few of the one, or of the other:", seen)
	}
}

// dueTurn says over again, of a mapping that may be, what a key is turned to.
func dueTurn(m api.Mapping, old string) (string, api.Errno) {
	one, other := setsOf(m.Old)[m.OldSet], setsOf(m.New)[m.NewSet]
	l, e := key.Decode(old)
	if e != api.OK || len(l) != len(one) {
		return "", api.ErrKey
	}
	var ones, others []api.Column
	for i := range one {
		ones, others = append(ones, m.Old.Columns[one[i]]), append(others, m.New.Columns[other[i]])
	}
	l, e = convert.Row(ones, others, l...)
	if e != api.OK {
		return "", api.ErrKey
	}
	return keyOf(l...), api.OK
}

// Rules that hold everywhere.

func TestNothingHandedInIsChanged(t *testing.T) {
	room := func() (api.Mapping, []api.Value) {
		m := wide()
		m.Rules = append(m.Rules, fixed(none()), fixed(none()))[:len(m.Rules)]
		m.Old.Columns = append(m.Old.Columns, texts("z", 9))[:len(m.Old.Columns)]
		m.New.Columns = append(m.New.Columns, texts("z", 9))[:len(m.New.Columns)]
		m.Old.Uniques[1] = append(m.Old.Uniques[1], 77, 78)[:2]
		m.New.Uniques[0] = append(m.New.Uniques[0], 77, 78)[:2]
		return m, list(num(7), uns(1), text("5"), truth(1), null(), none(), none())[:5]
	}
	whole := func(m api.Mapping, row []api.Value) []any {
		return []any{m.Rules[:cap(m.Rules)], m.Old.Columns[:cap(m.Old.Columns)], m.New.Columns[:cap(m.New.Columns)], m.Old.Uniques[1][:cap(m.Old.Uniques[1])], m.New.Uniques[0][:cap(m.New.Uniques[0])], m, row[:cap(row)]}
	}
	m, row := room()
	was, same := room()
	l, e := mapping.Row(m, row...)
	if e != api.OK {
		t.Fatal(e)
	}
	mapping.Check(m)
	mapping.OldKey(m, row...)
	mapping.NewKey(m, l...)
	mapping.Turn(m, keyOf(truth(1), uns(1)))
	over(mapping.Unsure(m), 99)
	if !reflect.DeepEqual(whole(m, row), whole(was, same)) {
		t.Error(m, row)
	}
}

func TestAnswersAreNewMemory(t *testing.T) {
	m := with(given(4), func(m *api.Mapping) { m.New, m.Rules = m.Old, from(0, 1) })
	row := list(num(1), num(2))
	a, _ := mapping.Row(m, row...)
	b, _ := mapping.Row(m, row...)
	for i := range a[:cap(a)] {
		a[:cap(a)][i] = none()
	}
	if want := list(num(1), num(2)); !slices.Equal(row, want) || !slices.Equal(b, want) {
		t.Error(row, b)
	}
}

// Any mapping of two columns each, any row, any key: as the chapter says.
func FuzzAnyMapping(f *testing.F) {
	f.Add([]byte{1, 1, 1, 2, 4, 4, 2, 1}, 0, 1, 0, 0, int64(-5), int64(200), "\x01\x80\x00\x00\x00\x00\x00\x00\x07")
	f.Add([]byte{3, 0, 2, 1, 1, 1, 1, 2}, 0, -1, 0, 0, int64(1), int64(256), "\x03\x01")
	f.Add([]byte{1, 1, 1, 2, 4, 3, 2, 1}, 0, 1, 0, 0, int64(1), int64(1), "")
	f.Fuzz(func(t *testing.T, types []byte, from1, from2, oldSet, newSet int, a, b int64, old string) {
		types = append(slices.Clone(types), make([]byte, 8)...)
		column := func(name string, i int) api.Column {
			return api.Column{Name: name, Type: api.TypeKind(types[i] & 7), Size: int(types[i+1]), Null: types[i]&8 != 0}
		}
		m := api.Mapping{
			Old:    api.Schema{Columns: columns(column("a", 0), column("b", 2)), Key: at(0), Uniques: [][]int{{1}, {1, 0}}},
			New:    api.Schema{Columns: columns(column("c", 4), column("d", 6)), Key: at(0), Uniques: [][]int{{1}, {1, 0}}},
			Rules:  []api.Rule{{From: from1, Value: num(a)}, {From: from2, Value: num(b)}},
			OldSet: oldSet, NewSet: newSet,
		}
		e := mapping.Check(m)
		if want := due(m); e != want {
			t.Fatalf("%+v: %v, not %v", m, e, want)
		}
		if e != api.OK {
			return
		}
		if s, e := mapping.Turn(m, old); true {
			if want, f := dueTurn(m, old); s != want || e != f {
				t.Fatalf("%+v, %x: %x, %v, not %x, %v", m, old, s, e, want, f)
			}
		}
		row := list(num(a), num(b))
		l, e := mapping.Row(m, row...)
		if want, f := dueRow(m, row); !slices.Equal(l, want) || e != f {
			t.Fatalf("%+v, %v: %v, %v, not %v, %v", m, row, l, e, want, f)
		}
	})
}
