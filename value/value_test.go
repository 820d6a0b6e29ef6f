package value_test

import (
	"fmt"
	"math"
	"math/big"
	"math/rand"
	"slices"
	"strings"
	"testing"

	"swingbridge/api"
	"swingbridge/value"
)

func null() api.Value           { return api.Value{} }
func num(n int64) api.Value     { return api.Value{Kind: api.ValueInt, Int: n} }
func uns(n uint64) api.Value    { return api.Value{Kind: api.ValueUint, Uint: n} }
func truth(n int64) api.Value   { return api.Value{Kind: api.ValueBool, Int: n} }
func octets(s string) api.Value { return api.Value{Kind: api.ValueBytes, Bytes: s} }

var allBytes = func() string {
	var b [api.MaxBytes]byte
	for i := range b {
		b[i] = byte(i + 56) // so that 255 and 0 are neighbours in it
	}
	return string(b[:])
}()

// good are values that may be, rising, each with its text.
var good = []struct {
	v api.Value
	s string
}{
	{null(), "null"},
	{num(math.MinInt64), "-9223372036854775808"},
	{num(math.MinInt64 + 1), "-9223372036854775807"},
	{num(-10), "-10"},
	{num(-9), "-9"},
	{num(-1), "-1"},
	{num(0), "0"},
	{num(1), "1"},
	{num(9), "9"},
	{num(10), "10"},
	{num(100), "100"},
	{num(math.MaxInt64 - 1), "9223372036854775806"},
	{num(math.MaxInt64), "9223372036854775807"},
	{uns(0), "0u"},
	{uns(2), "2u"},
	{uns(10), "10u"},
	{uns(1 << 63), "9223372036854775808u"},
	{uns(math.MaxUint64 - 1), "18446744073709551614u"},
	{uns(math.MaxUint64), "18446744073709551615u"},
	{truth(0), "false"},
	{truth(1), "true"},
	{octets(""), "x''"},
	{octets("\x00"), "x'00'"},
	{octets("\x00\x00"), "x'0000'"},
	{octets("\x00\xff"), "x'00ff'"},
	{octets("\t\n, '"), "x'090a2c2027'"},
	{octets(allBytes), "x'" + fmt.Sprintf("%x", allBytes) + "'"},
	{octets("B"), "x'42'"},
	{octets("a"), "x'61'"},
	{octets("aa"), "x'6161'"},
	{octets("b"), "x'62'"},
	{octets("\x7f"), "x'7f'"},
	{octets("\x80"), "x'80'"},
	{octets("é"), "x'c3a9'"},
	{octets(strings.Repeat("\xff", api.MaxBytes-1)), "x'" + strings.Repeat("ff", api.MaxBytes-1) + "'"},
	{octets(strings.Repeat("\xff", api.MaxBytes)), "x'" + strings.Repeat("ff", api.MaxBytes) + "'"},
}

// bad are values that may not be, each with what is told of it.
var bad = []struct {
	v api.Value
	e api.Errno
}{
	{api.Value{Int: 1}, api.ErrArg},
	{api.Value{Uint: 1}, api.ErrArg},
	{api.Value{Bytes: "a"}, api.ErrArg},
	{api.Value{Kind: api.ValueInt, Uint: 1}, api.ErrArg},
	{api.Value{Kind: api.ValueInt, Int: 1, Bytes: "a"}, api.ErrArg},
	{api.Value{Kind: api.ValueUint, Int: 1}, api.ErrArg},
	{api.Value{Kind: api.ValueUint, Uint: 1, Int: -1}, api.ErrArg},
	{api.Value{Kind: api.ValueUint, Bytes: "\x00"}, api.ErrArg},
	{truth(2), api.ErrArg},
	{truth(-1), api.ErrArg},
	{truth(3), api.ErrArg},
	{truth(math.MaxInt64), api.ErrArg},
	{truth(math.MinInt64), api.ErrArg},
	{api.Value{Kind: api.ValueBool, Uint: 1}, api.ErrArg},
	{api.Value{Kind: api.ValueBool, Int: 1, Bytes: "a"}, api.ErrArg},
	{api.Value{Kind: api.ValueBytes, Int: 1}, api.ErrArg},
	{api.Value{Kind: api.ValueBytes, Uint: 1, Bytes: "a"}, api.ErrArg},
	{api.Value{Kind: 5}, api.ErrArg},
	{api.Value{Kind: -1}, api.ErrArg},
	{api.Value{Kind: math.MaxInt}, api.ErrArg},
	{api.Value{Kind: math.MinInt}, api.ErrArg},
	{octets(strings.Repeat("a", api.MaxBytes+1)), api.ErrLong},
	{octets(strings.Repeat("\xff", 100000)), api.ErrLong},
	// Where both are wrong, ErrArg comes first.
	{api.Value{Kind: api.ValueBytes, Int: 1, Bytes: strings.Repeat("a", api.MaxBytes+1)}, api.ErrArg},
	{api.Value{Kind: api.ValueInt, Bytes: strings.Repeat("a", api.MaxBytes+1)}, api.ErrArg},
	{api.Value{Kind: 9, Bytes: strings.Repeat("a", api.MaxBytes+1)}, api.ErrArg},
}

func sign(less bool) int {
	if less {
		return -1
	}
	return 1
}

// P1.1

func TestCheck(t *testing.T) {
	for _, g := range good {
		if e := value.Check(g.v); e != api.OK {
			t.Errorf("%s: %v", g.s, e)
		}
	}
	for i, b := range bad {
		if e := value.Check(b.v); e != b.e {
			t.Errorf("%d: %v, not %v", i, e, b.e)
		}
	}
}

func TestOrder(t *testing.T) {
	for i, a := range good {
		for j, b := range good {
			want := 0
			if i != j {
				want = sign(i < j)
			}
			if n := value.Order(a.v, b.v); n != want {
				t.Errorf("%s, %s: %d, not %d", a.s, b.s, n, want)
			}
		}
	}
}

func TestOrderOfWhatMayNotBe(t *testing.T) {
	long := strings.Repeat("a", 1000)
	rising := []api.Value{
		{Kind: math.MinInt, Int: 9, Uint: 9, Bytes: "z"},
		{Kind: -1, Uint: 9},
		{Kind: -1, Int: 1},
		{Int: -1, Uint: 7, Bytes: "z"},
		{},
		{Bytes: "a"},
		{Uint: 1},
		{Uint: math.MaxUint64},
		{Int: 1},
		{Kind: api.ValueInt, Int: -3, Uint: 9, Bytes: "z"},
		{Kind: api.ValueInt, Int: -3, Uint: 10},
		{Kind: api.ValueInt, Int: -2, Bytes: "a"},
		{Kind: api.ValueInt, Int: -2, Bytes: "b"},
		{Kind: api.ValueUint, Int: -1, Uint: 9},
		{Kind: api.ValueUint, Uint: 8},
		{Kind: api.ValueUint, Int: 1, Uint: 1},
		{Kind: api.ValueBool, Int: 2},
		{Kind: api.ValueBool, Int: 3},
		{Kind: api.ValueBytes, Bytes: long},
		{Kind: api.ValueBytes, Bytes: long + "a"},
		{Kind: api.ValueBytes, Uint: 1, Bytes: "a"},
		{Kind: api.ValueBytes, Int: 1},
		{Kind: 5},
		{Kind: math.MaxInt},
	}
	for i, a := range rising {
		for j, b := range rising {
			want := 0
			if i != j {
				want = sign(i < j)
			}
			if n := value.Order(a, b); n != want {
				t.Errorf("%v, %v: %d, not %d", a, b, n, want)
			}
		}
	}
}

func TestLists(t *testing.T) {
	rising := [][]api.Value{
		{},
		{null()},
		{null(), null()},
		{null(), num(-1)},
		{num(1)},
		{num(1), null()},
		{num(1), num(2), num(9)},
		{num(1), num(3)},
		{num(2)},
		{uns(1), octets("a")},
		{uns(1), octets("a"), null()},
		{api.Value{Kind: 7}},
		{api.Value{Kind: 7}, null()},
	}
	for i, a := range rising {
		for j, b := range rising {
			want := 0
			if i != j {
				want = sign(i < j)
			}
			if n := value.Lists(a, slices.Clone(b)); n != want {
				t.Errorf("%v, %v: %d, not %d", a, b, n, want)
			}
		}
	}
	if n := value.Lists(nil, []api.Value{}); n != 0 {
		t.Error("nil and empty:", n)
	}
	if n := value.Lists([]api.Value{{}}, nil); n != 1 {
		t.Error("one and nil:", n)
	}
}

// P1.2

func TestText(t *testing.T) {
	for _, g := range good {
		if s, e := value.Text(g.v); s != g.s || e != api.OK {
			t.Errorf("%q, %v, not %q", s, e, g.s)
		}
	}
	for i, b := range bad {
		if s, e := value.Text(b.v); s != "" || e != b.e {
			t.Errorf("%d: %q, %v, not %v", i, s, e, b.e)
		}
	}
}

func TestParse(t *testing.T) {
	for _, g := range good {
		if v, e := value.Parse(g.s); v != g.v || e != api.OK {
			t.Errorf("%q: %v, %v", g.s, v, e)
		}
	}
}

func TestParseNone(t *testing.T) {
	long := strings.Repeat("61", api.MaxBytes+1)
	for _, s := range []string{
		"", " ", "a", "nul", "Null", "NULL", "nulll", "null ", " null", "True", "truefalse", "tru", "false0",
		"-", "--1", "-0", "+1", "+0", "00", "01", "-01", "007", "1 ", " 1", "1.0", "1e3", "0x10", "1_000", "1,", "1:", "/", "9a", "a9", "٣", "1\x00", "\x00",
		"9223372036854775808", "-9223372036854775809", "10000000000000000000", "18446744073709551616", "92233720368547758070", strings.Repeat("9", 1000), "-" + strings.Repeat("9", 1000),
		"u", "-u", "-1u", "-0u", "+1u", "00u", "05u", "1U", "1uu", "u1", "1 u", " 1u", "au", "18446744073709551616u", "18446744073709551620u", "99999999999999999999u", strings.Repeat("1", 100000) + "u",
		"x", "'", "x'", "''", "x'0", "x'0'", "x'000'", "x'00", "x00'", "00'", "X'00'", "x'AB'", "x'aB'", "x'0g'", "x'g0'", "x'/0'", "x':0'", "x'`0'", "x'0 '", "x' 00'", "x'00''", "x'00'u", " x'00'", "x'00' ", "x''00'", "x'-1'",
		"x'" + long + "6'", "x'" + long + "6g'", "x'g6" + long + "'", "x'" + long, "x'" + long + "''", "x'" + strings.ToUpper(long+"ab") + "'",
		"null, null", "1, 2", "\xff", "é",
	} {
		if v, e := value.Parse(s); v != null() || e != api.ErrText {
			t.Errorf("%.40q: %v, %v", s, v, e)
		}
	}
}

func TestParseLong(t *testing.T) {
	for _, n := range []int{api.MaxBytes + 1, api.MaxBytes + 2, 100000} {
		if v, e := value.Parse("x'" + strings.Repeat("0f", n) + "'"); v != null() || e != api.ErrLong {
			t.Error(n, v, e)
		}
	}
}

// P1.3

func TestRow(t *testing.T) {
	for _, c := range []struct {
		l []api.Value
		s string
	}{
		{nil, ""},
		{[]api.Value{}, ""},
		{[]api.Value{null()}, "null"},
		{[]api.Value{null(), truth(1)}, "null, true"},
		{[]api.Value{num(-5), uns(5), octets("\x00\xff"), truth(0), octets("")}, "-5, 5u, x'00ff', false, x''"},
	} {
		if s, e := value.Row(c.l...); s != c.s || e != api.OK {
			t.Errorf("%q, %v, not %q", s, e, c.s)
		}
	}
	many := make([]api.Value, 1000)
	if s, e := value.Row(many...); s != strings.Repeat("null, ", 999)+"null" || e != api.OK {
		t.Error("a thousand:", len(s), e)
	}
}

func TestRowRefuses(t *testing.T) {
	long, wrong := octets(strings.Repeat("a", api.MaxBytes+1)), truth(2)
	for i, c := range []struct {
		l []api.Value
		e api.Errno
	}{
		{[]api.Value{wrong}, api.ErrArg},
		{[]api.Value{long}, api.ErrLong},
		{[]api.Value{long, wrong}, api.ErrLong},
		{[]api.Value{wrong, long}, api.ErrArg},
		{[]api.Value{null(), num(1), long, null()}, api.ErrLong},
		{[]api.Value{null(), num(1), null(), wrong}, api.ErrArg},
	} {
		if s, e := value.Row(c.l...); s != "" || e != c.e {
			t.Errorf("%d: %q, %v, not %v", i, s, e, c.e)
		}
	}
}

// gone goes over a text's values, at most so many of them, and asks that they are counted from 0 on.
func gone(t *testing.T, s string, most int) []api.Value {
	t.Helper()
	var l []api.Value
	if most == 0 {
		return l
	}
	for i, v := range value.Each(s) {
		if i != len(l) {
			t.Errorf("%.40q: number %d, not %d", s, i, len(l))
		}
		l = append(l, v)
		if len(l) == most {
			break
		}
	}
	return l
}

func TestEach(t *testing.T) {
	long := "x'" + strings.Repeat("00", api.MaxBytes+1) + "'"
	for s, want := range map[string][]api.Value{
		"":                          nil,
		" ":                         nil,
		", ":                        nil,
		", null":                    nil,
		"null":                      {null()},
		"null, ":                    {null()},
		"null, , 1":                 {null()},
		"null, true":                {null(), truth(1)},
		"-5, 5u, x'00ff', false":    {num(-5), uns(5), octets("\x00\xff"), truth(0)},
		"1, 2, 3, -0, 5":            {num(1), num(2), num(3)},
		"1, 2,3":                    {num(1)},
		"1,2":                       nil,
		"1 , 2":                     nil,
		"1,  2":                     {num(1)},
		"1, 2 ":                     {num(1)},
		"1, 2,":                     {num(1)},
		" 1, 2":                     nil,
		"nope, 1":                   nil,
		"1, 9223372036854775808, 2": {num(1)},
		"1, " + long + ", 2":        {num(1)},
		long:                        nil,
		"\xff, 1":                   nil,
	} {
		if l := gone(t, s, -1); !slices.Equal(l, want) {
			t.Errorf("%.40q: %v, not %v", s, l, want)
		}
	}
}

func TestEachIsLeftAndGoneOverAgain(t *testing.T) {
	each := value.Each("1, 2, 3")
	for most := 1; most <= 3; most++ {
		n := 0
		for i, v := range each {
			if i != n || v != num(int64(n+1)) {
				t.Error(most, i, v)
			}
			n++
			if n == most {
				break
			}
		}
		if n != most {
			t.Error(most, n)
		}
	}
	for i, a := range each { // one within another
		n := 0
		for range each {
			n++
		}
		if n != 3 || a != num(int64(i+1)) {
			t.Error(i, a, n)
		}
	}
	for range value.Each("") {
		t.Error("of an empty text")
	}
}

// P1.4

// draw makes a value that may be, with bounds and near neighbours often among them.
func draw(r *rand.Rand) api.Value {
	near := []uint64{0, 1, 9, 10, 1<<63 - 1, 1 << 63, 1<<63 + 1, math.MaxUint64, r.Uint64(), r.Uint64() >> r.Intn(64)}
	n := near[r.Intn(len(near))]
	switch r.Intn(5) {
	case 0:
		return null()
	case 1:
		return num(int64(n))
	case 2:
		return uns(n)
	case 3:
		return truth(int64(n & 1))
	}
	sizes := []int{0, 1, 2, 3, r.Intn(20), api.MaxBytes - 1, api.MaxBytes}
	b := make([]byte, sizes[r.Intn(len(sizes))])
	for i := range b {
		b[i] = []byte{0, 1, 'a', 255, byte(r.Intn(256))}[r.Intn(5)]
	}
	return octets(string(b))
}

// model orders values in another way than the package: numbers by big ones, bytes one by one.
func model(a, b api.Value) int {
	if a.Kind != b.Kind {
		return sign(a.Kind < b.Kind)
	}
	if a.Kind == api.ValueBytes {
		for i := 0; i < len(a.Bytes) && i < len(b.Bytes); i++ {
			if a.Bytes[i] != b.Bytes[i] {
				return sign(a.Bytes[i] < b.Bytes[i])
			}
		}
		return big.NewInt(int64(len(a.Bytes))).Cmp(big.NewInt(int64(len(b.Bytes))))
	}
	x := new(big.Int).Add(big.NewInt(a.Int), new(big.Int).SetUint64(a.Uint))
	y := new(big.Int).Add(big.NewInt(b.Int), new(big.Int).SetUint64(b.Uint))
	return x.Cmp(y)
}

func TestOrderAndTextsAreOne(t *testing.T) {
	r := rand.New(rand.NewSource(1))
	texts := map[string]api.Value{}
	for range 20000 {
		a, b := draw(r), draw(r)
		if n := value.Order(a, b); n != model(a, b) || n != -value.Order(b, a) || (n == 0) != (a == b) {
			t.Fatal(a, b, n)
		}
		s, e := value.Text(a)
		if e != api.OK {
			t.Fatal(a, e)
		}
		if v, e := value.Parse(s); v != a || e != api.OK {
			t.Fatal(s, v, e)
		}
		if v, was := texts[s]; was && v != a {
			t.Fatal(s, v, a)
		}
		texts[s] = a
	}
}

func TestOrderSorts(t *testing.T) {
	r := rand.New(rand.NewSource(2))
	l := make([]api.Value, 300)
	for i := range l {
		l[i] = draw(r)
	}
	slices.SortFunc(l, value.Order)
	for i := range l {
		for j := i; j < len(l); j++ {
			if value.Order(l[i], l[j]) > 0 {
				t.Fatal(l[i], l[j])
			}
		}
	}
}

func TestEachOfRow(t *testing.T) {
	r := rand.New(rand.NewSource(3))
	for range 2000 {
		l := make([]api.Value, r.Intn(10))
		for i := range l {
			l[i] = draw(r)
		}
		was := slices.Clone(l)
		s, e := value.Row(l...)
		if e != api.OK || !slices.Equal(l, was) {
			t.Fatal(l, was, e)
		}
		if got := gone(t, s, -1); !slices.Equal(got, l) {
			t.Fatal(s, got)
		}
		most := r.Intn(len(l) + 1)
		if got := gone(t, s, most); !slices.Equal(got, l[:most]) {
			t.Fatal(s, got, most)
		}
	}
}

func TestRowLeavesSpareRoomAlone(t *testing.T) {
	room := []api.Value{num(1), num(2), num(3)}
	value.Row(room[:1]...)
	value.Lists(room[:1], room[:2])
	if !slices.Equal(room, []api.Value{num(1), num(2), num(3)}) {
		t.Error(room)
	}
}

// asks holds of any text whatever: Text of Parse is the text, and Each tells what Parse tells of the pieces.
func asks(t *testing.T, s string) {
	t.Helper()
	v, e := value.Parse(s)
	if e == api.OK {
		if back, e := value.Text(v); back != s || e != api.OK {
			t.Errorf("%q: %v, %q, %v", s, v, back, e)
		}
	} else if v != null() || e != api.ErrText && e != api.ErrLong {
		t.Errorf("%q: %v, %v", s, v, e)
	}
	var want []api.Value
	for _, piece := range strings.Split(s, ", ") {
		v, e := value.Parse(piece)
		if e != api.OK {
			break
		}
		want = append(want, v)
	}
	if got := gone(t, s, -1); !slices.Equal(got, want) {
		t.Errorf("%q: %v, not %v", s, got, want)
	}
}

func TestAnyText(t *testing.T) {
	r := rand.New(rand.NewSource(4))
	parts := []string{"null", "true", "false", "-", "0", "1", "5", "u", "x'", "'", "ab", "AB", ", ", ",", " ", "\xff", "9223372036854775808"}
	for range 20000 {
		var s strings.Builder
		for range r.Intn(8) {
			s.WriteString(parts[r.Intn(len(parts))])
		}
		asks(t, s.String())
	}
}

func FuzzAnyText(f *testing.F) {
	for _, g := range good {
		f.Add(g.s)
		f.Add(g.s + ", " + g.s)
	}
	f.Fuzz(asks)
}
