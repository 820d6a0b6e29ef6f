package key_test

import (
	"bytes"
	"encoding/binary"
	"iter"
	"math"
	"math/rand"
	"slices"
	"strings"
	"testing"

	"swingbridge/api"
	"swingbridge/key"
	"swingbridge/value"
)

func null() api.Value                 { return api.Value{} }
func num(n int64) api.Value           { return api.Value{Kind: api.ValueInt, Int: n} }
func uns(n uint64) api.Value          { return api.Value{Kind: api.ValueUint, Uint: n} }
func truth(n int64) api.Value         { return api.Value{Kind: api.ValueBool, Int: n} }
func text(s string) api.Value         { return api.Value{Kind: api.ValueBytes, Bytes: s} }
func long(n int) api.Value            { return text(strings.Repeat("x", n)) }
func list(l ...api.Value) []api.Value { return l }

func nulls(n int) []api.Value { return make([]api.Value, n) }

// singles are rising, each with its key.
var singles = []struct {
	v api.Value
	s string
}{
	{null(), "\x00"},
	{num(math.MinInt64), "\x01\x00\x00\x00\x00\x00\x00\x00\x00"},
	{num(math.MinInt64 + 1), "\x01\x00\x00\x00\x00\x00\x00\x00\x01"},
	{num(-1 << 32), "\x01\x7f\xff\xff\xff\x00\x00\x00\x00"},
	{num(-256), "\x01\x7f\xff\xff\xff\xff\xff\xff\x00"},
	{num(-2), "\x01\x7f\xff\xff\xff\xff\xff\xff\xfe"},
	{num(-1), "\x01\x7f\xff\xff\xff\xff\xff\xff\xff"},
	{num(0), "\x01\x80\x00\x00\x00\x00\x00\x00\x00"},
	{num(1), "\x01\x80\x00\x00\x00\x00\x00\x00\x01"},
	{num(255), "\x01\x80\x00\x00\x00\x00\x00\x00\xff"},
	{num(256), "\x01\x80\x00\x00\x00\x00\x00\x01\x00"},
	{num(0x0102030405060708), "\x01\x81\x02\x03\x04\x05\x06\x07\x08"},
	{num(math.MaxInt64), "\x01\xff\xff\xff\xff\xff\xff\xff\xff"},
	{uns(0), "\x02\x00"},
	{uns(1), "\x02\x01\x01"},
	{uns(255), "\x02\x01\xff"},
	{uns(256), "\x02\x02\x01\x00"},
	{uns(258), "\x02\x02\x01\x02"},
	{uns(1 << 63), "\x02\x08\x80\x00\x00\x00\x00\x00\x00\x00"},
	{uns(math.MaxUint64), "\x02\x08\xff\xff\xff\xff\xff\xff\xff\xff"},
	{truth(0), "\x03\x00"},
	{truth(1), "\x03\x01"},
	{text(""), "\x04\x00\x00\x00\x00\x00\x00\x00\x00\x00"},
	{text("\x00"), "\x04\x00\x00\x00\x00\x00\x00\x00\x00\x01"},
	{text("\x00\x00"), "\x04\x00\x00\x00\x00\x00\x00\x00\x00\x02"},
	{text(zeros(8)), "\x04\x00\x00\x00\x00\x00\x00\x00\x00\x08"},
	{text(zeros(9)), "\x04\x00\x00\x00\x00\x00\x00\x00\x00\x09\x00\x00\x00\x00\x00\x00\x00\x00\x01"},
	{text(zeros(8) + "\x01"), "\x04\x00\x00\x00\x00\x00\x00\x00\x00\x09\x01\x00\x00\x00\x00\x00\x00\x00\x01"},
	{text("\x00\xff"), "\x04\x00\xff\x00\x00\x00\x00\x00\x00\x02"},
	{text("a"), "\x04a\x00\x00\x00\x00\x00\x00\x00\x01"},
	{text("a\x00"), "\x04a\x00\x00\x00\x00\x00\x00\x00\x02"},
	{text("ab"), "\x04ab\x00\x00\x00\x00\x00\x00\x02"},
	{text("abcdefg"), "\x04abcdefg\x00\x07"},
	{text("abcdefg\x00"), "\x04abcdefg\x00\x08"},
	{text("abcdefgh"), "\x04abcdefgh\x08"},
	{text("abcdefgh\x00"), "\x04abcdefgh\x09\x00\x00\x00\x00\x00\x00\x00\x00\x01"},
	{text("abcdefghabcdefgh"), "\x04abcdefgh\x09abcdefgh\x08"},
	{text("abcdefghi"), "\x04abcdefgh\x09i\x00\x00\x00\x00\x00\x00\x00\x01"},
	{text("abcdefghijklmnop"), "\x04abcdefgh\x09ijklmnop\x08"},
	{text("abcdefghijklmnopq"), "\x04abcdefgh\x09ijklmnop\x09q\x00\x00\x00\x00\x00\x00\x00\x01"},
	{long(193), "\x04" + strings.Repeat("xxxxxxxx\x09", 24) + "x\x00\x00\x00\x00\x00\x00\x00\x01"},
	{long(199), "\x04" + strings.Repeat("xxxxxxxx\x09", 24) + "xxxxxxx\x00\x07"},
	{long(200), "\x04" + strings.Repeat("xxxxxxxx\x09", 24) + "xxxxxxxx\x08"},
	{text("\xff"), "\x04\xff\x00\x00\x00\x00\x00\x00\x00\x01"},
	{text(strings.Repeat("\xff", 8)), "\x04\xff\xff\xff\xff\xff\xff\xff\xff\x08"},
	{text(strings.Repeat("\xff", 9)), "\x04\xff\xff\xff\xff\xff\xff\xff\xff\x09\xff\x00\x00\x00\x00\x00\x00\x00\x01"},
}

func zeros(n int) string { return strings.Repeat("\x00", n) }

// none are bytes that begin with no value's key.
var none = []string{
	// other Kinds
	"\x05",
	"\x05\x00",
	"\x09\x00\x00\x00\x00\x00\x00\x00\x00\x00",
	"\x7f",
	"\x80",
	"\xff",
	"\xff\xff\xff\xff\xff\xff\xff\xff\xff",
	// numbers with a sign that end ahead of their end
	"\x01",
	"\x01\x80",
	"\x01\x80\x00\x00\x00\x00\x00\x00",
	// numbers from 0 on
	"\x02",
	"\x02\x01",
	"\x02\x02\x01",
	"\x02\x08\x01\x02\x03\x04\x05\x06\x07",
	"\x02\x01\x00",
	"\x02\x02\x00\x01",
	"\x02\x08\x00\x01\x02\x03\x04\x05\x06\x07",
	"\x02\x09\x01\x02\x03\x04\x05\x06\x07\x08\x09",
	"\x02\xff" + strings.Repeat("\x01", 255),
	// truths
	"\x03",
	"\x03\x02",
	"\x03\x80",
	"\x03\xff",
	// bytes that end ahead of their end
	"\x04",
	"\x04\x00\x00\x00\x00\x00\x00\x00\x00",
	"\x04abcdefgh",
	"\x04abcdefgh\x09",
	"\x04abcdefgh\x09ijklmnop",
	"\x04abcdefgh\x09ijklmnop\x09",
	// other bytes than 0 in the place of those that are not there
	"\x04\x00\x00\x00\x00\x00\x00\x00\x01\x00",
	"\x04a\x00\x00\x00\x00\x00\x00\x00\x00",
	"\x04ab\x00\x00\x00\x00\x00\x00\x01",
	"\x04a\x00\x00\x00\x00\x00\x00\xff\x01",
	"\x04abcdefgh\x00",
	"\x04abcdefgh\x07",
	"\x04abcdefgh\x09ij\x00\x00\x00\x00\x00\x00\x01",
	// more than there may be
	"\x04abcdefgh\x0a",
	"\x04abcdefgh\x0aijklmnop\x08",
	"\x04abcdefgh\x88",
	"\x04abcdefgh\xff",
	"\x04\x00\x00\x00\x00\x00\x00\x00\x00\x0a",
	"\x04\x00\x00\x00\x00\x00\x00\x00\x00\xff",
	// the group ahead would be the last one
	"\x04abcdefgh\x09\x00\x00\x00\x00\x00\x00\x00\x00\x00",
	"\x04abcdefgh\x09ijklmnop\x09\x00\x00\x00\x00\x00\x00\x00\x00\x00",
	"\x04\x00\x00\x00\x00\x00\x00\x00\x00\x09\x00\x00\x00\x00\x00\x00\x00\x00\x00",
	// more than MaxBytes
	"\x04" + strings.Repeat("xxxxxxxx\x09", 25) + "\x00\x00\x00\x00\x00\x00\x00\x00\x00",
	"\x04" + strings.Repeat("xxxxxxxx\x09", 25) + "x\x00\x00\x00\x00\x00\x00\x00\x01",
	"\x04" + strings.Repeat("xxxxxxxx\x09", 25) + "xxxxxxxx\x08",
	"\x04" + strings.Repeat("xxxxxxxx\x09", 200) + "xxxxxxxx\x08",
}

// keyOf says over again what the chapter says, in another way than the package.
func keyOf(l ...api.Value) string {
	var b strings.Builder
	for _, v := range l {
		b.WriteByte(byte(v.Kind))
		switch v.Kind {
		case api.ValueInt:
			b.Write(binary.BigEndian.AppendUint64(nil, uint64(v.Int)+1<<63))
		case api.ValueUint:
			n := bytes.TrimLeft(binary.BigEndian.AppendUint64(nil, v.Uint), "\x00")
			b.WriteByte(byte(len(n)))
			b.Write(n)
		case api.ValueBool:
			b.WriteByte(byte(v.Int))
		case api.ValueBytes:
			s := v.Bytes
			for ; len(s) > 8; s = s[8:] {
				b.WriteString(s[:8] + "\x09")
			}
			b.WriteString(s + zeros(8-len(s)) + string(rune(len(s))))
		}
	}
	return b.String()
}

func pick[T any](r *rand.Rand, l ...T) T { return l[r.Intn(len(l))] }

// someBytes are of few kinds, so that many begin alike, and end about where a group does.
func someBytes(r *rand.Rand) string {
	n := pick(r, 0, 1, 2, 7, 8, 9, 15, 16, 17, 24, 25, 199, 200, r.Intn(30), r.Intn(201))
	b := bytes.Repeat([]byte{pick[byte](r, 0, 'x', 255)}, n)
	for range r.Intn(3) {
		if n > 0 {
			b[pick(r, n-1, r.Intn(n))] = pick[byte](r, 0, 1, 8, 9, 'x', 255, byte(r.Intn(256)))
		}
	}
	return string(b)
}

func someValue(r *rand.Rand) api.Value {
	n := r.Uint64() >> r.Intn(64)
	switch r.Intn(9) {
	case 0:
		return null()
	case 1, 2:
		return num(pick(r, 0, 1, -1, math.MinInt64, math.MaxInt64, int64(n), -int64(n)))
	case 3, 4:
		return uns(pick(r, 0, 1, 255, 256, 1<<63, math.MaxUint64, n, n))
	case 5:
		return truth(int64(r.Intn(2)))
	}
	return text(someBytes(r))
}

// someList is one whose key is not too long.
func someList(r *rand.Rand) []api.Value {
	l := make([]api.Value, r.Intn(8))
	for i := range l {
		l[i] = someValue(r)
	}
	return l
}

// near is another list that begins as one does, or is it.
func near(r *rand.Rand, l []api.Value) []api.Value {
	l = slices.Clone(l[:r.Intn(len(l)+1)])
	for range r.Intn(2) {
		l = append(l, someValue(r))
	}
	if at := len(l) - 1; at >= 0 && l[at].Kind == api.ValueBytes && r.Intn(2) == 0 {
		s := l[at].Bytes
		s = pick(r, s[:len(s)-min(len(s), r.Intn(3))], s+pick(r, "\x00", "\x01", "x", "\xff"))
		l[at] = text(s[:min(len(s), api.MaxBytes)])
	}
	return l
}

// P5.1

func TestEncode(t *testing.T) {
	for _, c := range singles {
		if s, e := key.Encode(c.v); s != c.s || e != api.OK {
			t.Errorf("%v: %x, %v, not %x", c.v, s, e, c.s)
		}
		if s := keyOf(c.v); s != c.s {
			t.Errorf("%v: the test itself says %x", c.v, s)
		}
	}
	for i, c := range []struct {
		l []api.Value
		s string
	}{
		{nil, ""},
		{list(), ""},
		{list(null(), truth(1)), "\x00\x03\x01"},
		{list(truth(1), null()), "\x03\x01\x00"},
		{list(null(), null(), null()), "\x00\x00\x00"},
		{list(uns(258), num(-1), uns(0)), "\x02\x02\x01\x02\x01\x7f\xff\xff\xff\xff\xff\xff\xff\x02\x00"},
		{list(text(""), text("")), "\x04\x00\x00\x00\x00\x00\x00\x00\x00\x00\x04\x00\x00\x00\x00\x00\x00\x00\x00\x00"},
		{list(text("ab"), text("c")), "\x04ab\x00\x00\x00\x00\x00\x00\x02\x04c\x00\x00\x00\x00\x00\x00\x00\x01"},
		{list(text("abcdefgh"), truth(0)), "\x04abcdefgh\x08\x03\x00"},
	} {
		if s, e := key.Encode(c.l...); s != c.s || e != api.OK {
			t.Errorf("%d: %x, %v, not %x", i, s, e, c.s)
		}
	}
}

func TestEncodeRefuses(t *testing.T) {
	full := slices.Concat(nulls(2000), list(null())) // too long
	for i, c := range []struct {
		l []api.Value
		e api.Errno
	}{
		{list(api.Value{Kind: 5}), api.ErrArg},
		{list(api.Value{Kind: -1}), api.ErrArg},
		{list(api.Value{Kind: 256}), api.ErrArg}, // 0, if only its lowest byte is taken
		{list(api.Value{Kind: math.MaxInt}), api.ErrArg},
		{list(api.Value{Kind: math.MinInt}), api.ErrArg},
		{list(api.Value{Int: 1}), api.ErrArg},
		{list(api.Value{Bytes: "x"}), api.ErrArg},
		{list(api.Value{Kind: api.ValueInt, Int: 1, Uint: 1}), api.ErrArg},
		{list(api.Value{Kind: api.ValueUint, Int: 1, Uint: 1}), api.ErrArg},
		{list(api.Value{Kind: api.ValueBytes, Int: 1, Bytes: "x"}), api.ErrArg},
		{list(truth(2)), api.ErrArg},
		{list(truth(-1)), api.ErrArg},
		{list(truth(256)), api.ErrArg},
		{list(long(201)), api.ErrLong},
		{list(long(100000)), api.ErrLong},
		{list(api.Value{Kind: api.ValueBytes, Int: 1, Bytes: long(201).Bytes}), api.ErrArg},
		// from the left
		{list(null(), truth(2)), api.ErrArg},
		{list(long(201), truth(2)), api.ErrLong},
		{list(truth(2), long(201)), api.ErrArg},
		{list(long(200), long(201), truth(2)), api.ErrLong},
		// a wrong value ahead of a key that is too long
		{full, api.ErrLong},
		{slices.Concat(full, list(truth(2))), api.ErrArg},
		{slices.Concat(full, list(truth(2), long(201))), api.ErrArg},
		{slices.Concat(full, list(long(201), truth(2))), api.ErrLong},
		{slices.Concat(full, nulls(100000), list(api.Value{Kind: 5})), api.ErrArg},
		{nulls(1000000), api.ErrLong},
	} {
		if s, e := key.Encode(c.l...); s != "" || e != c.e {
			t.Errorf("%d: %x, %v, not %v", i, s, e, c.e)
		}
	}
}

// atBound are lists whose keys have just as many bytes as a key may have.
func atBound() [][]api.Value {
	return [][]api.Value{
		nulls(2000),
		slices.Concat(slices.Repeat(list(long(200)), 8), nulls(192)),
		slices.Concat(nulls(192), slices.Repeat(list(long(200)), 8)),
		slices.Concat(slices.Repeat(list(num(-1)), 222), list(truth(1))),
		slices.Repeat(list(text("")), 200),
		slices.Repeat(list(uns(math.MaxUint64)), 200),
		slices.Repeat(list(truth(1)), 1000),
	}
}

func TestEncodeBound(t *testing.T) {
	for i, l := range atBound() {
		want := keyOf(l...)
		if len(want) != api.MaxKey {
			t.Fatal(i, len(want))
		}
		if s, e := key.Encode(l...); s != want || e != api.OK {
			t.Errorf("%d: %x, %v", i, s, e)
		}
		if s, e := key.Encode(l[1:]...); s != keyOf(l[1:]...) || e != api.OK {
			t.Errorf("%d: %x, %v", i, s, e)
		}
		for _, v := range list(null(), truth(0), uns(0), num(0), text(""), long(200)) {
			if s, e := key.Encode(append(l[:len(l):len(l)], v)...); s != "" || e != api.ErrLong {
				t.Errorf("%d, %v: %x, %v", i, v, s, e)
			}
		}
	}
}

func TestDecode(t *testing.T) {
	for _, c := range singles {
		if l, e := key.Decode(c.s); !slices.Equal(l, list(c.v)) || e != api.OK {
			t.Errorf("%x: %v, %v, not %v", c.s, l, e, c.v)
		}
		for _, d := range singles {
			if l, e := key.Decode(c.s + d.s); !slices.Equal(l, list(c.v, d.v)) || e != api.OK {
				t.Errorf("%x: %v, %v, not %v, %v", c.s+d.s, l, e, c.v, d.v)
			}
		}
		for cut := 1; cut < len(c.s); cut++ {
			if l, e := key.Decode(c.s[:cut]); l != nil || e != api.ErrKey {
				t.Errorf("%x: %v, %v", c.s[:cut], l, e)
			}
		}
	}
	if l, e := key.Decode(""); len(l) != 0 || e != api.OK {
		t.Error("empty:", l, e)
	}
}

func TestDecodeRefuses(t *testing.T) {
	for _, s := range none {
		for _, ahead := range []string{"", "\x00", "\x03\x01", "\x02\x01\x07\x04ab\x00\x00\x00\x00\x00\x00\x02"} {
			if l, e := key.Decode(ahead + s); l != nil || e != api.ErrKey {
				t.Errorf("%x %x: %v, %v", ahead, s, l, e)
			}
		}
	}
	for _, c := range singles {
		if c.s == "\x00" {
			continue
		}
		for _, behind := range []string{"\x05", "\xff", "\x01", "\x04abc"} {
			if l, e := key.Decode(c.s + behind); l != nil || e != api.ErrKey {
				t.Errorf("%x %x: %v, %v", c.s, behind, l, e)
			}
		}
	}
}

func TestDecodeBound(t *testing.T) {
	for i, l := range atBound() {
		s := keyOf(l...)
		if got, e := key.Decode(s); !slices.Equal(got, l) || e != api.OK {
			t.Error(i, len(got), e)
		}
		for _, behind := range []string{"\x00", "\x03\x01", "\xff", s} {
			if got, e := key.Decode(s + behind); got != nil || e != api.ErrKey {
				t.Errorf("%d, %.9x: %d, %v", i, behind, len(got), e)
			}
		}
	}
	if l, e := key.Decode(zeros(1 << 24)); l != nil || e != api.ErrKey {
		t.Error(len(l), e)
	}
}

// P5.2

// texts are any, keys and others.
func texts() []string {
	l := []string{"", "\x00", "\xff", "a", "\xff\xff", "\xc3\x28", "no key", zeros(3000), strings.Repeat("\xff", 3000)}
	for _, c := range singles {
		l = append(l, c.s)
	}
	return append(l, none...)
}

func TestBehind(t *testing.T) {
	for _, s := range texts() {
		b := key.Behind(s)
		if b != s+"\x00" {
			t.Errorf("%.99x: %.99x", s, b)
		}
		// One that is above s goes on behind it, or is greater ahead of its end: the least of these is b.
		for _, other := range append(texts(), s+"\x00", s+"\x00\x00", s+"\x01", s+"\xff") {
			if s < other && other < b {
				t.Errorf("%.99x: %.99x is between", s, other)
			}
		}
	}
}

func TestAll(t *testing.T) {
	for _, s := range texts() {
		if a := key.All(s); a != s+"\xff" {
			t.Errorf("%.99x: %.99x", s, a)
		}
	}
}

// P5.3

// spot is a value, and where its key begins.
type spot struct {
	at int
	v  api.Value
}

func spots(all iter.Seq2[int, api.Value], most int) []spot {
	var l []spot
	for at, v := range all {
		if l = append(l, spot{at, v}); len(l) == most {
			break
		}
	}
	return l
}

func TestEach(t *testing.T) {
	for _, c := range []struct {
		s string
		l []spot
	}{
		{"", nil},
		{"\x00", []spot{{0, null()}}},
		{"\x00\x03\x01", []spot{{0, null()}, {1, truth(1)}}},
		{"\x02\x02\x01\x02\x03\x00\x00", []spot{{0, uns(258)}, {4, truth(0)}, {6, null()}}},
		{"\x01\x7f\xff\xff\xff\xff\xff\xff\xff\x04abcdefgh\x08\x00", []spot{{0, num(-1)}, {9, text("abcdefgh")}, {19, null()}}},
		{"\x04abcdefgh\x09i\x00\x00\x00\x00\x00\x00\x00\x01\x03\x01", []spot{{0, text("abcdefghi")}, {19, truth(1)}}},
		{"\x03\x01\x03\x02\x03\x00", []spot{{0, truth(1)}}},
		{"\x03\x01\x05\x03\x00", []spot{{0, truth(1)}}},
		{"\x03\x01\x01\x80\x00", []spot{{0, truth(1)}}},
		{"\x03\x02\x03\x01", nil},
	} {
		if l := spots(key.Each(c.s), 99); !slices.Equal(l, c.l) {
			t.Errorf("%x: %v, not %v", c.s, l, c.l)
		}
	}
	for _, s := range none {
		if l := spots(key.Each(s), 99); l != nil {
			t.Errorf("%x: %v", s, l)
		}
		if l := spots(key.Each("\x00\x03\x01"+s), 99); !slices.Equal(l, []spot{{0, null()}, {1, truth(1)}}) {
			t.Errorf("%x: %v", s, l)
		}
	}
}

func TestEachOfManyValues(t *testing.T) {
	r := rand.New(rand.NewSource(1))
	for range 300 {
		var b strings.Builder
		var want []spot
		for range r.Intn(60) { // more than a key holds, too
			v := someValue(r)
			want = append(want, spot{b.Len(), v})
			b.WriteString(keyOf(v))
		}
		for _, behind := range append(none, "") {
			if l := spots(key.Each(b.String()+behind), 99); !slices.Equal(l, want) {
				t.Fatalf("%x, %x: %v, not %v", b.String(), behind, l, want)
			}
		}
	}
}

// What is gone over has no bound, and takes no longer for what stands behind it.
func TestEachOfLongTexts(t *testing.T) {
	for _, c := range singles {
		many := 1<<21/len(c.s) + 1
		i := 0
		for at, v := range key.Each(strings.Repeat(c.s, many)) {
			if at != i*len(c.s) || v != c.v {
				t.Fatal(c.v, i, at, v)
			}
			if i++; i == 1<<18 {
				break
			}
		}
		if i != min(many, 1<<18) {
			t.Error(c.v, i)
		}
	}
}

func TestEachIsLeftAndGoneOverAgain(t *testing.T) {
	all := key.Each("\x00\x02\x01\x07\x04ab\x00\x00\x00\x00\x00\x00\x02\x03\x01")
	want := []spot{{0, null()}, {1, uns(7)}, {4, text("ab")}, {14, truth(1)}}
	for most := 1; most <= 5; most++ {
		if l := spots(all, most); !slices.Equal(l, want[:min(most, 4)]) {
			t.Error(most, l)
		}
	}
	var outer []spot
	for at, v := range all { // one within another
		outer = append(outer, spot{at, v})
		if inner := spots(all, len(outer)); !slices.Equal(inner, want[:len(outer)]) {
			t.Error(at, inner)
		}
	}
	if !slices.Equal(outer, want) {
		t.Error(outer)
	}
}

// What who goes over the values panics with is none of the package's, whatever it is.
func TestEachLetsPanicsGo(t *testing.T) {
	for _, what := range []any{"a text", api.ErrKey, 7} {
		func() {
			defer func() {
				if given := recover(); given != what {
					t.Error(what, given)
				}
			}()
			for range key.Each("\x00\x00") {
				panic(what)
			}
			t.Error(what, "is gone")
		}()
	}
}

// P5.4

func TestOrderOfSingles(t *testing.T) {
	for i, c := range singles {
		for j, d := range singles {
			a, _ := key.Encode(c.v)
			b, _ := key.Encode(d.v)
			if n := strings.Compare(a, b); n != value.Order(c.v, d.v) {
				t.Errorf("%v, %v: %d", c.v, d.v, n)
			}
			if i < j && value.Order(c.v, d.v) != -1 {
				t.Errorf("the test itself: %v, %v", c.v, d.v)
			}
			if i != j && strings.HasPrefix(a, b) {
				t.Errorf("%v begins %v", d.v, c.v)
			}
		}
	}
}

func TestOrderOfLists(t *testing.T) {
	r := rand.New(rand.NewSource(2))
	var found [3]int
	for range 200000 {
		l := someList(r)
		o := near(r, l)
		a, e := key.Encode(l...)
		b, f := key.Encode(o...)
		if a != keyOf(l...) || b != keyOf(o...) || e != api.OK || f != api.OK {
			t.Fatalf("%v, %v: %x, %v, %x, %v", l, o, a, e, b, f)
		}
		n := strings.Compare(a, b)
		if n != value.Lists(l, o) {
			t.Fatalf("%v, %v: %x, %x", l, o, a, b)
		}
		found[n+1]++
	}
	if min(found[0], found[1], found[2]) < 10000 {
		t.Error("too few of one:", found)
	}
}

func TestDecodeOfEncodeIsTheValues(t *testing.T) {
	r := rand.New(rand.NewSource(3))
	for range 50000 {
		l := someList(r)
		s, e := key.Encode(l...)
		if e != api.OK {
			t.Fatal(l, e)
		}
		if got, e := key.Decode(s); !slices.Equal(got, l) || e != api.OK {
			t.Fatalf("%v, %x: %v, %v", l, s, got, e)
		}
	}
}

func TestNoValuesKeyBeginsAnother(t *testing.T) {
	r := rand.New(rand.NewSource(4))
	seen := map[string]api.Value{}
	for range 20000 {
		v := someValue(r)
		s, _ := key.Encode(v)
		if o, is := seen[s]; is && o != v {
			t.Fatal(o, v)
		}
		seen[s] = v
	}
	for s, v := range seen {
		for cut := range len(s) {
			if o, is := seen[s[:cut]]; is {
				t.Fatal(o, "begins", v)
			}
		}
	}
}

func TestAllIsBehindKeysThatBeginSo(t *testing.T) {
	r := rand.New(rand.NewSource(5))
	var found [3]int
	for range 200000 {
		l := someList(r)
		o := near(r, l)
		if r.Intn(3) == 0 {
			o = slices.Concat(l, o)
		}
		a, _ := key.Encode(l...)
		b, e := key.Encode(o...)
		if e != api.OK {
			continue
		}
		all := key.All(a)
		switch {
		case strings.HasPrefix(b, a):
			found[0]++
			if b >= all || !slices.Equal(o[:len(l)], l) {
				t.Fatalf("%v, %v: %x is not below %x", l, o, b, all)
			}
		case b > a:
			found[1]++
			if b <= all {
				t.Fatalf("%v, %v: %x is not above %x", l, o, b, all)
			}
		default:
			found[2]++
			if key.Behind(b) > a {
				t.Fatalf("%v, %v: %x is above %x", l, o, key.Behind(b), a)
			}
		}
	}
	if min(found[0], found[1], found[2]) < 10000 {
		t.Error("too few of one:", found)
	}
}

// holds asks of any bytes: if they are a key, it is that of its values; and of what Each tells of them.
func holds(t *testing.T, s string) bool {
	t.Helper()
	var each []api.Value
	end := 0
	for at, v := range key.Each(s) {
		one, e := key.Encode(v)
		if at != end || e != api.OK || !strings.HasPrefix(s[at:], one) {
			t.Fatalf("%x: %d, %d, %v, %v", s, at, end, v, e)
		}
		each = append(each, v)
		end += len(one)
	}
	l, e := key.Decode(s)
	if e == api.ErrKey && l == nil {
		if end == len(s) && len(s) <= api.MaxKey {
			t.Fatalf("%x: %v", s, each)
		}
		return false
	}
	if e != api.OK || !slices.Equal(l, each) || end != len(s) {
		t.Fatalf("%x: %v, %v, not %v", s, l, e, each)
	}
	if again, e := key.Encode(l...); again != s || e != api.OK {
		t.Fatalf("%x: %v, %x, %v", s, l, again, e)
	}
	return true
}

// spoil changes some bytes, takes some, or lays some among them.
func spoil(r *rand.Rand, s string) string {
	b := []byte(s)
	for range 1 + r.Intn(3) {
		at := r.Intn(len(b) + 1)
		x := pick[byte](r, 0, 1, 2, 3, 4, 5, 8, 9, 10, 255, byte(r.Intn(256)))
		switch {
		case r.Intn(3) == 0:
			b = slices.Insert(b, at, x)
		case at == len(b):
		case r.Intn(2) == 0:
			b[at] = x
		default:
			b = slices.Delete(b, at, min(len(b), at+1+r.Intn(3)))
		}
	}
	return string(b)
}

func TestEncodeOfDecodeIsTheKey(t *testing.T) {
	r := rand.New(rand.NewSource(6))
	var found [2]int
	for range 100000 {
		if holds(t, spoil(r, keyOf(someList(r)...))) {
			found[1]++
		} else {
			found[0]++
		}
	}
	if min(found[0], found[1]) < 10000 {
		t.Error("too few of the one, or of the other:", found)
	}
}

// grown are the texts of all lengths up to one, of a few bytes.
func grown(letters string, most int) []string {
	all := []string{""}
	for at := 0; len(all[at]) < most; at++ {
		for _, x := range []byte(letters) {
			all = append(all, all[at]+string([]byte{x}))
		}
	}
	return all
}

// All bytes of a few kinds, up to a length, are a key just if they are that of some values.
func TestJustKeysAreKeys(t *testing.T) {
	const letters, most = "\x00\x01\x02\x03\x04\x09\xff", 5
	short := list(null(), truth(0), truth(1)) // the values whose keys are so short, and of these bytes
	for _, s := range grown(letters, most-2) {
		if !strings.HasPrefix(s, "\x00") {
			short = append(short, uns(binary.BigEndian.Uint64([]byte(zeros(8-len(s))+s))))
		}
	}
	all := map[string]bool{}
	var lay func(s string)
	lay = func(s string) {
		all[s] = true
		for _, v := range short {
			if more := s + keyOf(v); len(more) <= most {
				lay(more)
			}
		}
	}
	lay("")
	for _, s := range grown(letters, most) {
		if is := holds(t, s); is != all[s] {
			t.Fatalf("%x: %t", s, is)
		}
	}
}

// One group, and two, of all bytes of two kinds, with all that may be told behind them.
func TestJustGroupsAreGroups(t *testing.T) {
	for n := range 1 << 8 {
		var g [8]byte
		there := 0
		for i := range g {
			if n>>i&1 == 1 {
				g[i] = 'x'
				there = i + 1
			}
		}
		for mark := range 256 {
			s := "\x04" + string(g[:]) + string([]byte{byte(mark)})
			if is := holds(t, s); is != (mark >= there && mark <= 8) {
				t.Errorf("%x: %t", s, is)
			}
			s = "\x04abcdefgh\x09" + s[1:]
			if is := holds(t, s); is != (mark >= max(there, 1) && mark <= 8) {
				t.Errorf("%x: %t", s, is)
			}
			s = "\x04abcdefgh" + string([]byte{byte(mark)}) + "\x00\x00\x00\x00\x00\x00\x00\x00\x01"
			if is := holds(t, s); is != (mark == 9) { // of 8, the number with a sign that begins at its end is not all there
				t.Errorf("%x: %t", s, is)
			}
		}
	}
}

// Rules that hold everywhere.

func TestNothingHandedInIsChanged(t *testing.T) {
	values := func() []api.Value { return list(num(1), text("abcdefghi"), uns(1), truth(1), null(), truth(7)) }
	l := values()
	key.Encode(l[:5]...)
	key.Encode(l...)
	if !slices.Equal(l, values()) {
		t.Error(l)
	}
}

func TestAnswersAreNewMemory(t *testing.T) {
	s := keyOf(num(1), text("ab"), null())
	want := list(num(1), text("ab"), null())
	a, _ := key.Decode(s)
	b, _ := key.Decode(s)
	clear(a[:cap(a)])
	if !slices.Equal(b, want) {
		t.Error(b)
	}
	again, _ := key.Encode(b...)
	clear(b[:cap(b)])
	if again != s {
		t.Errorf("%x", again)
	}
}

func FuzzAnyKey(f *testing.F) {
	for _, s := range texts() {
		f.Add(s)
	}
	f.Fuzz(func(t *testing.T, s string) { holds(t, s) })
}
