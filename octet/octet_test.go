package octet_test

import (
	"bytes"
	"encoding/binary"
	"fmt"
	"hash/crc32"
	"math"
	"math/rand"
	"slices"
	"strings"
	"testing"

	"swingbridge/api"
	"swingbridge/octet"
)

// numbers are rising, each with its bytes.
var numbers = []struct {
	n uint64
	b string
}{
	{0, "\x00"},
	{1, "\x01\x01"},
	{7, "\x01\x07"},
	{127, "\x01\x7f"},
	{128, "\x01\x80"},
	{255, "\x01\xff"},
	{256, "\x02\x01\x00"},
	{258, "\x02\x01\x02"},
	{1<<16 - 1, "\x02\xff\xff"},
	{1 << 16, "\x03\x01\x00\x00"},
	{1<<24 - 1, "\x03\xff\xff\xff"},
	{1 << 24, "\x04\x01\x00\x00\x00"},
	{1<<31 - 1, "\x04\x7f\xff\xff\xff"},
	{1<<32 - 1, "\x04\xff\xff\xff\xff"},
	{1 << 32, "\x05\x01\x00\x00\x00\x00"},
	{1 << 40, "\x06\x01\x00\x00\x00\x00\x00"},
	{1<<48 - 1, "\x06\xff\xff\xff\xff\xff\xff"},
	{1 << 48, "\x07\x01\x00\x00\x00\x00\x00\x00"},
	{1<<56 - 1, "\x07\xff\xff\xff\xff\xff\xff\xff"},
	{1 << 56, "\x08\x01\x00\x00\x00\x00\x00\x00\x00"},
	{0x0102030405060708, "\x08\x01\x02\x03\x04\x05\x06\x07\x08"},
	{1<<63 - 1, "\x08\x7f\xff\xff\xff\xff\xff\xff\xff"},
	{1 << 63, "\x08\x80\x00\x00\x00\x00\x00\x00\x00"},
	{math.MaxUint64, "\x08\xff\xff\xff\xff\xff\xff\xff\xff"},
}

// none are bytes that begin with no number's.
var none = []string{
	"",
	"\x01",
	"\x02",
	"\x08",
	"\x02\x01",
	"\x03\x01\x02",
	"\x08\x01\x02\x03\x04\x05\x06\x07",
	"\x01\x00",
	"\x02\x00\x01",
	"\x02\x00\x00",
	"\x01\x00\x01",
	"\x08\x00\xff\xff\xff\xff\xff\xff\xff",
	"\x08\x00\x00\x00\x00\x00\x00\x00\x01",
	"\x09\x01\x02\x03\x04\x05\x06\x07\x08\x09",
	"\x09\x00\x02\x03\x04\x05\x06\x07\x08\x09",
	"\x0a",
	"\x10\x01\x02\x03\x04\x05\x06\x07\x08\x09\x0a\x0b\x0c\x0d\x0e\x0f\x10",
	"\x7f\x01",
	"\x80\x01",
	"\xff",
	"\xff" + strings.Repeat("\x01", 255),
}

// numberOf tells a number's bytes in another way than the package: those of all eight, without the noughts ahead.
func numberOf(n uint64) string {
	b := bytes.TrimLeft(binary.BigEndian.AppendUint64(nil, n), "\x00")
	return string(rune(len(b))) + string(b)
}

// draw makes numbers of all lengths, with bounds often among them.
func draw(r *rand.Rand) uint64 {
	n := r.Uint64() >> r.Intn(64)
	near := []uint64{0, 1, 255, 256, 1 << (8 * r.Intn(8)), 1<<(8*r.Intn(8)) - 1, math.MaxUint64, n, n, n}
	return near[r.Intn(len(near))]
}

// P2.1

func TestNumber(t *testing.T) {
	for _, c := range numbers {
		if b := octet.Number(c.n); string(b) != c.b {
			t.Errorf("%d: %x, not %x", c.n, b, c.b)
		}
	}
}

func TestReadNumber(t *testing.T) {
	for _, c := range numbers {
		for _, behind := range []string{"", "\x00", "\x07", "\xff\xff", strings.Repeat("\x01", 20)} {
			n, many, e := octet.ReadNumber([]byte(c.b + behind))
			if n != c.n || many != len(c.b) || e != api.OK {
				t.Errorf("%x %x: %d, %d, %v", c.b, behind, n, many, e)
			}
		}
		for cut := range len(c.b) {
			if n, many, e := octet.ReadNumber([]byte(c.b[:cut])); n != 0 || many != 0 || e != api.ErrOctet {
				t.Errorf("%x: %d, %d, %v", c.b[:cut], n, many, e)
			}
		}
	}
}

func TestReadNumberNone(t *testing.T) {
	for _, s := range none {
		if n, many, e := octet.ReadNumber([]byte(s)); n != 0 || many != 0 || e != api.ErrOctet {
			t.Errorf("%x: %d, %d, %v", s, n, many, e)
		}
	}
	if n, many, e := octet.ReadNumber(nil); n != 0 || many != 0 || e != api.ErrOctet {
		t.Error("nil:", n, many, e)
	}
}

// A piece's end is the bytes' end, not that of the room behind them.
func TestReadsNothingOfTheRoomBehind(t *testing.T) {
	room := []byte("\x02\x01\x02\x07")
	if n, many, e := octet.ReadNumber(room[:2]); n != 0 || many != 0 || e != api.ErrOctet {
		t.Error("number:", n, many, e)
	}
	if s, many, e := octet.ReadText([]byte("\x01\x02ab")[:3]); s != "" || many != 0 || e != api.ErrOctet {
		t.Error("text:", s, many, e)
	}
	for at, n := range octet.Each(room[:2]) {
		t.Error("each:", at, n)
	}
	if _, e := octet.ReadFixed(room[:0]); e != api.ErrArg {
		t.Error("fixed:", e)
	}
	if n := octet.Sum(room[:0]); n != 0 {
		t.Error("sum:", n)
	}
}

// spot is a number, and where its bytes begin.
type spot struct {
	at int
	n  uint64
}

func spots(b []byte) []spot {
	var l []spot
	for at, n := range octet.Each(b) {
		l = append(l, spot{at, n})
	}
	return l
}

func TestEach(t *testing.T) {
	for _, c := range []struct {
		b string
		l []spot
	}{
		{"", nil},
		{"\x00", []spot{{0, 0}}},
		{"\x00\x00\x00", []spot{{0, 0}, {1, 0}, {2, 0}}},
		{"\x02\x01\x02\x00\x01\x07", []spot{{0, 258}, {3, 0}, {4, 7}}},
		{"\x08\xff\xff\xff\xff\xff\xff\xff\xff\x01\x01", []spot{{0, math.MaxUint64}, {9, 1}}},
		{"\x01\x07\x02\x01", []spot{{0, 7}}},                     // ends ahead of its end
		{"\x01\x07\x01\x00\x01\x08", []spot{{0, 7}}},             // more than it needs
		{"\x01\x07\x09\x01\x01\x01\x01\x01\x01", []spot{{0, 7}}}, // more than eight
		{"\x01\x07\xff\x00\x00", []spot{{0, 7}}},
		{"\x09\x00", nil},
		{"\x01\x00\x00", nil},
		{"\x01", nil},
	} {
		if l := spots([]byte(c.b)); !slices.Equal(l, c.l) {
			t.Errorf("%x: %v, not %v", c.b, l, c.l)
		}
	}
	for _, s := range none {
		if l := spots([]byte(s)); len(l) != 0 {
			t.Errorf("%x: %v", s, l)
		}
		if l := spots([]byte("\x01\x05" + s)); !slices.Equal(l, []spot{{0, 5}}) {
			t.Errorf("%x: %v", s, l)
		}
	}
	if l := spots(nil); len(l) != 0 {
		t.Error("nil:", l)
	}
}

func TestEachOfAllNumbers(t *testing.T) {
	var b []byte
	var want []spot
	for _, c := range numbers {
		want = append(want, spot{len(b), c.n})
		b = append(b, c.b...)
	}
	if l := spots(b); !slices.Equal(l, want) {
		t.Error(l, want)
	}
}

func TestEachIsLeftAndGoneOverAgain(t *testing.T) {
	each := octet.Each([]byte("\x01\x01\x02\x01\x02\x00"))
	want := []spot{{0, 1}, {2, 258}, {5, 0}}
	for most := 1; most <= len(want); most++ {
		var l []spot
		for at, n := range each {
			l = append(l, spot{at, n})
			if len(l) == most {
				break
			}
		}
		if !slices.Equal(l, want[:most]) {
			t.Error(most, l)
		}
	}
	outer := 0
	for at, n := range each { // one within another
		var l []spot
		for at, n := range each {
			l = append(l, spot{at, n})
		}
		if !slices.Equal(l, want) || want[outer] != (spot{at, n}) {
			t.Error(at, n, l)
		}
		outer++
	}
	if outer != len(want) {
		t.Error(outer)
	}
}

// What is handed in is not kept: its holder may write over it before, and while, the numbers are gone over.
func TestEachKeepsNothing(t *testing.T) {
	b := []byte("\x01\x05\x01\x06\x01\x07")
	each := octet.Each(b)
	clear(b)
	for range 2 {
		var l []spot
		for at, n := range each {
			l = append(l, spot{at, n})
			copy(b, "\xff\xff\xff\xff\xff\xff")
		}
		if !slices.Equal(l, []spot{{0, 5}, {2, 6}, {4, 7}}) {
			t.Error(l)
		}
	}
}

// P2.2

var texts = []struct{ s, b string }{
	{"", "\x00"},
	{"a", "\x01\x01a"},
	{"ab", "\x01\x02ab"},
	{"\x00", "\x01\x01\x00"},
	{"\xff\xfe", "\x01\x02\xff\xfe"},
	{"é", "\x01\x02é"},
	{strings.Repeat("x", 255), "\x01\xff" + strings.Repeat("x", 255)},
	{strings.Repeat("x", 256), "\x02\x01\x00" + strings.Repeat("x", 256)},
	{strings.Repeat("x", 65535), "\x02\xff\xff" + strings.Repeat("x", 65535)},
	{strings.Repeat("x", 65536), "\x03\x01\x00\x00" + strings.Repeat("x", 65536)},
}

func TestText(t *testing.T) {
	for _, c := range texts {
		if b := octet.Text(c.s); string(b) != c.b {
			t.Errorf("%.20q: %.20q, not %.20q", c.s, b, c.b)
		}
	}
}

func TestReadText(t *testing.T) {
	for _, c := range texts {
		for _, behind := range []string{"", "\x00", "behind", "\xff"} {
			s, many, e := octet.ReadText([]byte(c.b + behind))
			if s != c.s || many != len(c.b) || e != api.OK {
				t.Errorf("%.20q: %.20q, %d, %v", c.b, s, many, e)
			}
		}
		for _, cut := range []int{0, 1, len(c.b) / 2, len(c.b) - 1} {
			if cut >= len(c.b) {
				continue
			}
			if s, many, e := octet.ReadText([]byte(c.b[:cut])); s != "" || many != 0 || e != api.ErrOctet {
				t.Errorf("%.20q, %d: %.20q, %d, %v", c.b, cut, s, many, e)
			}
		}
	}
}

func TestReadTextNone(t *testing.T) {
	for _, s := range append(slices.Clone(none),
		"\x01\x01",
		"\x01\x03ab",
		"\x01\x00a",
		"\x02\x00\x01a",
		"\x09\x01\x01\x01\x01\x01\x01\x01\x01\x01a",
		"\x04\x80\x00\x00\x00a",
		"\x08\x7f\xff\xff\xff\xff\xff\xff\xffa",
		"\x08\x7f\xff\xff\xff\xff\xff\xff\xf7a", // with where it begins, as great as a length can be
		"\x08\x80\x00\x00\x00\x00\x00\x00\x00a", // below 0, if it were taken for a length
		"\x08\xff\xff\xff\xff\xff\xff\xff\xffa",
		"\x08\xff\xff\xff\xff\xff\xff\xff\xf7a",
	) {
		if s, many, e := octet.ReadText([]byte(s)); s != "" || many != 0 || e != api.ErrOctet {
			t.Errorf("%x, %d, %v", s, many, e)
		}
	}
	if s, many, e := octet.ReadText(nil); s != "" || many != 0 || e != api.ErrOctet {
		t.Error("nil:", s, many, e)
	}
}

// P2.3

func TestFixed(t *testing.T) {
	for _, c := range []struct {
		n    uint64
		many int
		b    string
		e    api.Errno
	}{
		{258, 3, "\x00\x01\x02", api.OK},
		{258, 2, "\x01\x02", api.OK},
		{258, 1, "", api.ErrRange},
		{0, 1, "\x00", api.OK},
		{0, 8, "\x00\x00\x00\x00\x00\x00\x00\x00", api.OK},
		{255, 1, "\xff", api.OK},
		{256, 1, "", api.ErrRange},
		{1<<56 - 1, 7, "\xff\xff\xff\xff\xff\xff\xff", api.OK},
		{1 << 56, 7, "", api.ErrRange},
		{1 << 56, 8, "\x01\x00\x00\x00\x00\x00\x00\x00", api.OK},
		{0x0102030405060708, 8, "\x01\x02\x03\x04\x05\x06\x07\x08", api.OK},
		{math.MaxUint64, 8, "\xff\xff\xff\xff\xff\xff\xff\xff", api.OK},
		{math.MaxUint64, 7, "", api.ErrRange},
		{math.MaxUint64, 1, "", api.ErrRange},
		{0, 0, "", api.ErrArg},
		{0, -1, "", api.ErrArg},
		{0, 9, "", api.ErrArg},
		{1, math.MaxInt, "", api.ErrArg},
		{1, math.MinInt, "", api.ErrArg},
		{math.MaxUint64, 0, "", api.ErrArg}, // ErrRange is behind ErrArg
		{math.MaxUint64, -8, "", api.ErrArg},
		{math.MaxUint64, 9, "", api.ErrArg},
	} {
		b, e := octet.Fixed(c.n, c.many)
		if string(b) != c.b || e != c.e || e != api.OK && b != nil {
			t.Errorf("%d, %d: %x, %v, not %x, %v", c.n, c.many, b, e, c.b, c.e)
		}
	}
}

func TestFixedOfAllNumbers(t *testing.T) {
	for _, c := range numbers {
		need := max(len(c.b)-1, 1)
		for many := 1; many <= 8; many++ {
			b, e := octet.Fixed(c.n, many)
			if many < need {
				if b != nil || e != api.ErrRange {
					t.Errorf("%d, %d: %x, %v", c.n, many, b, e)
				}
				continue
			}
			if want := binary.BigEndian.AppendUint64(nil, c.n)[8-many:]; !bytes.Equal(b, want) || e != api.OK {
				t.Errorf("%d, %d: %x, %v, not %x", c.n, many, b, e, want)
			}
			if n, e := octet.ReadFixed(b); n != c.n || e != api.OK {
				t.Errorf("%x: %d, %v, not %d", b, n, e, c.n)
			}
		}
	}
}

func TestReadFixed(t *testing.T) {
	for _, c := range []struct {
		b string
		n uint64
		e api.Errno
	}{
		{"", 0, api.ErrArg},
		{"\x00", 0, api.OK},
		{"\x00\x01\x02", 258, api.OK},
		{"\x01\x02", 258, api.OK},
		{"\x00\x00\x00\x00\x00\x00\x00\x00", 0, api.OK},
		{"\x01\x02\x03\x04\x05\x06\x07\x08", 0x0102030405060708, api.OK},
		{"\xff\xff\xff\xff\xff\xff\xff\xff", math.MaxUint64, api.OK},
		{"\x00\x00\x00\x00\x00\x00\x00\x00\x01", 0, api.ErrArg},
		{strings.Repeat("\xff", 1000), 0, api.ErrArg},
	} {
		if n, e := octet.ReadFixed([]byte(c.b)); n != c.n || e != c.e {
			t.Errorf("%x: %d, %v, not %d, %v", c.b, n, e, c.n, c.e)
		}
	}
	if n, e := octet.ReadFixed(nil); n != 0 || e != api.ErrArg {
		t.Error("nil:", n, e)
	}
}

func TestSum(t *testing.T) {
	for _, c := range []struct {
		l    []string
		want uint32
	}{
		{nil, 0},
		{[]string{""}, 0},
		{[]string{"", "", ""}, 0},
		{[]string{"123456789"}, 0xe3069283},
		{[]string{"1234", "", "56789", ""}, 0xe3069283},
		{[]string{"56789", "1234"}, crc32.Checksum([]byte("567891234"), crc32.MakeTable(crc32.Castagnoli))},
		{[]string{strings.Repeat("\x00", 32)}, 0x8a9136aa},
		{[]string{strings.Repeat("\xff", 32)}, 0x62a8ab43},
	} {
		l := make([][]byte, len(c.l))
		for i, s := range c.l {
			l[i] = []byte(s)
		}
		if n := octet.Sum(l...); n != c.want {
			t.Errorf("%q: %x, not %x", c.l, n, c.want)
		}
	}
	if n := octet.Sum(); n != 0 {
		t.Error("no list:", n)
	}
	if n := octet.Sum(nil, nil); n != 0 {
		t.Error("nil lists:", n)
	}
	if n := octet.Sum(nil, []byte("123456789"), nil); n != 0xe3069283 {
		t.Errorf("nil lists around it: %x", n)
	}
}

// P2.4

func TestNoNumberBeginsAnother(t *testing.T) {
	r := rand.New(rand.NewSource(1))
	for range 20000 {
		n, m := draw(r), draw(r)
		a, b := octet.Number(n), octet.Number(m)
		if n != m && (bytes.HasPrefix(a, b) || bytes.HasPrefix(b, a)) {
			t.Fatal(n, m)
		}
		if (n < m) != (bytes.Compare(a, b) < 0) || (n == m) != bytes.Equal(a, b) {
			t.Fatal(n, m)
		}
	}
}

func TestWhatIsReadIsWhatWasTold(t *testing.T) {
	r := rand.New(rand.NewSource(2))
	for range 20000 {
		n := draw(r)
		b := octet.Number(n)
		if string(b) != numberOf(n) {
			t.Fatalf("%d: %x", n, b)
		}
		b = append(b, byte(r.Intn(256)))
		if got, many, e := octet.ReadNumber(b); got != n || many != len(b)-1 || e != api.OK {
			t.Fatal(n, got, many, e)
		}
		text := make([]byte, r.Intn(300))
		r.Read(text)
		b = append(octet.Text(string(text)), byte(r.Intn(256)))
		if s, many, e := octet.ReadText(b); s != string(text) || many != len(b)-1 || e != api.OK {
			t.Fatal(text, s, many, e)
		}
	}
}

func TestSumOfListsIsThatOfOne(t *testing.T) {
	r := rand.New(rand.NewSource(3))
	table := crc32.MakeTable(crc32.Castagnoli)
	for range 2000 {
		l := make([][]byte, r.Intn(5))
		for i := range l {
			l[i] = make([]byte, r.Intn(40))
			r.Read(l[i])
		}
		all := slices.Concat(l...)
		if n := octet.Sum(l...); n != octet.Sum(all) || n != crc32.Checksum(all, table) {
			t.Fatalf("%x: %x", l, n)
		}
	}
}

func TestOneBitIsUnlike(t *testing.T) {
	r := rand.New(rand.NewSource(4))
	for range 200 {
		b := make([]byte, 1+r.Intn(60))
		r.Read(b)
		was := octet.Sum(b)
		for i := range b {
			for bit := range 8 {
				b[i] ^= 1 << bit
				if octet.Sum(b) == was {
					t.Fatal(b, i, bit)
				}
				b[i] ^= 1 << bit
			}
		}
	}
}

// Rules that hold everywhere.

func TestNothingHandedInIsChanged(t *testing.T) {
	room := []byte("\x01\x02ab\x00\x07\xff\xff\xff")
	was := slices.Clone(room)
	for cut := range len(room) + 1 {
		b := room[:cut]
		octet.ReadNumber(b)
		octet.ReadText(b)
		octet.ReadFixed(b)
		octet.Sum(b, b)
		spots(b)
	}
	if !bytes.Equal(room, was) {
		t.Errorf("%x", room)
	}
}

func TestAnswersAreNewMemory(t *testing.T) {
	fixed := func() []byte {
		b, _ := octet.Fixed(258, 3)
		return b
	}
	for i, tell := range []func() []byte{
		func() []byte { return octet.Number(0) },
		func() []byte { return octet.Number(258) },
		func() []byte { return octet.Text("ab") },
		func() []byte { return octet.Text("") },
		fixed,
	} {
		a, b := tell(), tell()
		want := string(b)
		for j := range a[:cap(a)] {
			a[:cap(a)][j] = 0xee
		}
		if string(b) != want || string(tell()) != want {
			t.Error(i, b)
		}
	}
	b := []byte("\x01\x02ab")
	s, _, _ := octet.ReadText(b)
	clear(b)
	if s != "ab" {
		t.Errorf("%q", s)
	}
}

// asks holds of any bytes whatever: what begins with a number, or a text, begins with just its bytes; what does not is refused.
func asks(t *testing.T, b []byte) {
	t.Helper()
	was := string(b)
	n, many, e := octet.ReadNumber(b)
	switch {
	case e == api.OK && (many > len(b) || string(octet.Number(n)) != was[:many]):
		t.Errorf("number of %x: %d, %d", b, n, many)
	case e != api.OK && (n != 0 || many != 0 || e != api.ErrOctet):
		t.Errorf("number of %x: %d, %d, %v", b, n, many, e)
	}
	s, many, e := octet.ReadText(b)
	switch {
	case e == api.OK && (many > len(b) || string(octet.Text(s)) != was[:many]):
		t.Errorf("text of %x: %x, %d", b, s, many)
	case e != api.OK && (s != "" || many != 0 || e != api.ErrOctet):
		t.Errorf("text of %x: %x, %d, %v", b, s, many, e)
	}
	var want []spot
	for at := 0; ; {
		n, many, e := octet.ReadNumber(b[at:])
		if e != api.OK {
			break
		}
		want = append(want, spot{at, n})
		at += many
	}
	if l := spots(b); !slices.Equal(l, want) {
		t.Errorf("each of %x: %v, not %v", b, l, want)
	}
	if n, e := octet.ReadFixed(b); e == api.OK {
		if back, e := octet.Fixed(n, len(b)); string(back) != was || e != api.OK {
			t.Errorf("fixed of %x: %d, %x, %v", b, n, back, e)
		}
	}
	if n := octet.Sum(b); n != crc32.Checksum(b, crc32.MakeTable(crc32.Castagnoli)) {
		t.Errorf("sum of %x: %x", b, n)
	}
	if string(b) != was {
		t.Errorf("changed: %x, %x", was, b)
	}
}

func TestAnyBytes(t *testing.T) {
	for a := range 256 {
		asks(t, []byte{byte(a)})
		for b := range 256 {
			asks(t, []byte{byte(a), byte(b)})
			asks(t, []byte{byte(a % 16), byte(b % 16), byte(b / 16), byte(a / 16)})
		}
	}
	r := rand.New(rand.NewSource(5))
	for range 20000 {
		b := make([]byte, r.Intn(30))
		for i := range b {
			b[i] = []byte{0, 1, 2, 8, 9, 255, byte(r.Intn(256))}[r.Intn(7)]
		}
		asks(t, b)
	}
}

func FuzzAnyBytes(f *testing.F) {
	for _, c := range numbers {
		f.Add([]byte(c.b))
		f.Add([]byte(fmt.Sprint(c.b, c.b)))
	}
	f.Add([]byte("\x01\x02ab"))
	f.Fuzz(asks)
}
