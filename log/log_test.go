package log_test

import (
	"bytes"
	"encoding/binary"
	"fmt"
	"hash/crc32"
	"iter"
	"math"
	"math/rand"
	"slices"
	"strings"
	"testing"

	"swingbridge/api"
	"swingbridge/disk"
	"swingbridge/log"
)

// recordOf is the record of bytes, as the words say it.
func recordOf(s string) string {
	b := binary.BigEndian.AppendUint32(nil, uint32(len(s)))
	b = binary.BigEndian.AppendUint32(b, crc32.Checksum([]byte(s), crc32.MakeTable(crc32.Castagnoli)))
	return string(b) + s
}

// recordsOf are the records of several, one behind the other.
func recordsOf(l ...string) string {
	var s strings.Builder
	for _, r := range l {
		s.WriteString(recordOf(r))
	}
	return s.String()
}

// firstOf are what the records have with which bytes begin, one behind the other, as the words say it.
func firstOf(s string) (l []string) {
	for len(s) >= 8 {
		many := uint64(binary.BigEndian.Uint32([]byte(s)))
		if many > 60000 || many > uint64(len(s)-8) || !strings.HasPrefix(s, recordOf(s[8:8+many])) {
			break
		}
		l, s = append(l, s[8:8+many]), s[8+many:]
	}
	return l
}

func ok(t testing.TB, e api.Errno) {
	t.Helper()
	if e != api.OK {
		t.Fatal(e)
	}
}

// made makes a disk of that room.
func made(t testing.TB, room int) *disk.Disk {
	t.Helper()
	d, e := disk.New(room)
	ok(t, e)
	return d
}

// synced makes a disk whose file 3 has these bytes, and lasts.
func synced(t testing.TB, room int, s string) *disk.Disk {
	t.Helper()
	d := made(t, room)
	ok(t, d.Append(3, []byte(s)))
	ok(t, d.Sync())
	return d
}

// open opens the log in the file 3, as do most tests.
func open(t testing.TB, d *disk.Disk) *log.Log {
	t.Helper()
	l, e := log.Open(d, 3)
	ok(t, e)
	if l == nil {
		t.Fatal("no log")
	}
	return l
}

// put puts a record into a log, and tells its position.
func put(t testing.TB, l *log.Log, s string) int {
	t.Helper()
	at, e := l.Append([]byte(s))
	ok(t, e)
	return at
}

// bytesOf reads a file.
func bytesOf(t testing.TB, d *disk.Disk, file int) string {
	t.Helper()
	b, e := d.Read(file)
	ok(t, e)
	return string(b)
}

// placed is a record, and where it begins.
type placed struct {
	at int
	s  string
}

func collect(over iter.Seq2[int, []byte]) (l []placed) {
	for at, b := range over {
		l = append(l, placed{at, string(b)})
	}
	return l
}

// placesOf are records where they begin, if they stand one behind the other.
func placesOf(records ...string) (l []placed, end int) {
	for _, s := range records {
		l = append(l, placed{end, s})
		end += 8 + len(s)
	}
	return l, end
}

// hold holds a log, and the file 3 that it is over, against the records that it should have.
func hold(t testing.TB, d *disk.Disk, l *log.Log, torn int, records ...string) {
	t.Helper()
	want, end := placesOf(records...)
	if l.End() != end || l.Torn() != torn || bytesOf(t, d, 3) != recordsOf(records...) {
		t.Fatalf("end %d, not %d; torn %d, not %d; %q, not of %q", l.End(), end, l.Torn(), torn, bytesOf(t, d, 3), records)
	}
	if got := collect(l.Each(0)); !slices.Equal(got, want) {
		t.Fatalf("%v, not %v", got, want)
	}
	for at := -1; at <= end+1; at++ {
		i, is := slices.BinarySearchFunc(want, at, func(p placed, at int) int { return p.at - at })
		b, next, e := l.Read(at)
		switch {
		case is && (e != api.OK || string(b) != want[i].s || next != at+8+len(b)):
			t.Fatalf("%d: %q, %d, %v, not %q", at, b, next, e, want[i].s)
		case !is && (e != api.ErrRange || b != nil || next != 0):
			t.Fatalf("%d: %q, %d, %v, where no record begins", at, b, next, e)
		}
	}
}

// told is what can be told of a disk, as a text.
func told(d *disk.Disk) string {
	var s strings.Builder
	fmt.Fprint(&s, "loose ", d.Loose(), ", left ", d.Left())
	for file, many := range d.Files() {
		b, e := d.Read(file)
		fmt.Fprintf(&s, "; %d: %d %q %v", file, many, b, e)
	}
	return s.String()
}

// nones are logs that are not there.
func nones() []*log.Log { return []*log.Log{nil, {}} }

// some are bytes of several lengths, the edges among them.
func some() []string {
	return []string{"", "a", "ab", "\x00", "\xff\x00", strings.Repeat("x", 255), strings.Repeat("y", 256), strings.Repeat("z", 59999), strings.Repeat("\x00", 60000)}
}

// P10.1: Record, Whole.

func TestExamples(t *testing.T) {
	r, e := log.Record([]byte("123456789"))
	if e != api.OK || !bytes.HasPrefix(r, []byte{0, 0, 0, 9, 0xe3, 0x06, 0x92, 0x83, 0x31}) {
		t.Error(r, e)
	}
	d := made(t, 1000)
	l := open(t, d)
	if put(t, l, "ab") != 0 || put(t, l, "") != 10 {
		t.Error(told(d))
	}
	if b, next, e := l.Read(0); string(b) != "ab" || next != 10 || e != api.OK {
		t.Error(b, next, e)
	}
	if b, next, e := l.Read(10); len(b) != 0 || next != 18 || e != api.OK {
		t.Error(b, next, e)
	}
	if _, _, e := l.Read(1); e != api.ErrRange || l.End() != 18 {
		t.Error(e, l.End())
	}
	ok(t, d.Sync())
	put(t, l, "c")
	ok(t, d.Crash(0, 4))
	if l := open(t, d); l.End() != 18 || l.Torn() != 4 {
		t.Error(l.End(), l.Torn())
	}
}

func TestRecord(t *testing.T) {
	for _, s := range some() {
		if r, e := log.Record([]byte(s)); e != api.OK || string(r) != recordOf(s) {
			t.Errorf("of %d bytes: %d, %v", len(s), len(r), e)
		}
	}
	if r, e := log.Record(nil); e != api.OK || string(r) != "\x00\x00\x00\x00\x00\x00\x00\x00" {
		t.Error(r, e)
	}
	for _, many := range []int{60001, 65536, 1 << 20} {
		if r, e := log.Record(make([]byte, many)); e != api.ErrLong || r != nil {
			t.Error(many, len(r), e)
		}
	}
}

func TestWhole(t *testing.T) {
	right := recordsOf("ab", "", "cde")
	for _, c := range []struct {
		s    string
		many int
	}{
		{"", 0}, {"\x00", 0}, {strings.Repeat("\x00", 7), 0},
		{strings.Repeat("\x00", 8), 8}, {strings.Repeat("\x00", 15), 8}, {strings.Repeat("\x00", 16), 16}, // each has no bytes, whose sum is 0
		{strings.Repeat("\xff", 100), 0},
		{right, 29},
		{right + "\x00", 29},
		{right + recordOf("f"), 38},
		{"x" + right, 0},
		{right[:10] + "x" + right[10:], 10},
		{right[:18] + right[19:], 18},
		{right[10:], 19},
		{recordOf("ab")[:9] + "c" + right, 0},                               // another byte
		{"\x00\x00\x00\x02\x00\x00\x00\x00ab" + right, 0},                   // another sum
		{"\x00\x00\x00\x01" + recordOf("ab")[4:] + right, 0},                // fewer bytes
		{"\x02\x00\x00\x00" + recordOf("ab")[4:] + right, 0},                // the lowest first
		{"\xff\xff\xff\xff\x00\x00\x00\x00", 0},                             // more than a number of some kinds holds
		{"\x80\x00\x00\x00\x00\x00\x00\x00", 0},                             // or below 0 in it
		{"\xff\xff\xff\xf8\x00\x00\x00\x00" + right, 0},                     // or a step back
		{recordOf(strings.Repeat("x", 60000)) + right, 60008 + 29},          // as many bytes as a record has
		{recordOf(strings.Repeat("x", 60001)) + right, 0},                   // one more
		{right + recordOf(strings.Repeat("x", 70000)) + right, 29},          // as no record
		{right + recordOf(recordOf("inside")) + recordOf("f")[:8], 29 + 22}, // one whose bytes are a record
	} {
		if many := log.Whole([]byte(c.s)); many != c.many {
			t.Errorf("%.40q: %d, not %d", c.s, many, c.many)
		}
	}
	if log.Whole(nil) != 0 {
		t.Error(log.Whole(nil))
	}
}

// Whichever bit is another one, the records ahead of it are whole, and its own is none.
func TestWholeTellsEachBit(t *testing.T) {
	for n, l := range [][]string{{"ab", "", "cde"}, {"", "", "\x00"}, {"a longer one, of some bytes", "f"}} {
		right := recordsOf(l...)
		places, _ := placesOf(l...)
		for bit := range 8 * len(right) {
			b := []byte(right)
			b[bit/8] ^= 1 << (bit % 8)
			want := 0
			for _, p := range places {
				if p.at <= bit/8 {
					want = p.at
				}
			}
			if many := log.Whole(b); many != want {
				t.Errorf("%d, bit %d: %d, not %d", n, bit, many, want)
			}
		}
	}
}

// P10.2: Open, Append.

func TestOpen(t *testing.T) {
	d := made(t, 100)
	for _, c := range []struct {
		d    *disk.Disk
		file int
		e    api.Errno
	}{
		{d, 0, api.OK}, {d, 3, api.OK}, {d, 63, api.OK},
		{d, 64, api.ErrRange}, {d, -1, api.ErrRange}, {d, math.MinInt, api.ErrRange}, {d, math.MaxInt, api.ErrRange},
		{nil, 0, api.ErrNil}, {nil, 64, api.ErrNil}, {nil, -1, api.ErrNil}, {&disk.Disk{}, 0, api.ErrNil}, {&disk.Disk{}, 64, api.ErrNil},
	} {
		l, e := log.Open(c.d, c.file)
		if e != c.e || (l == nil) != (e != api.OK) || l.End() != 0 || l.Torn() != 0 || collect(l.Each(0)) != nil {
			t.Error(c.file, l, e)
		}
	}
	if told(d) != "loose 0, left 100" {
		t.Error(told(d))
	}
}

// What stands behind the whole part is cut, which is loose, if there is something; other files stay.
func TestOpenCuts(t *testing.T) {
	right := recordsOf("ab", "", "cde")
	for _, c := range []struct {
		s       string
		torn    int
		records []string
	}{
		{"", 0, nil},
		{right, 0, []string{"ab", "", "cde"}},
		{"\x00", 1, nil},
		{right + recordOf("f")[:8], 8, []string{"ab", "", "cde"}},
		{right[:28], 10, []string{"ab", ""}},
		{right[:10] + "?" + right[10:], 20, []string{"ab"}},
		{"?" + right, 30, nil},
		{right + recordOf("gh")[:9] + "?" + recordOf("f"), 19, []string{"ab", "", "cde"}}, // behind what is none no record counts
	} {
		d := synced(t, 100, c.s)
		ok(t, d.Append(2, []byte("another file")))
		ok(t, d.Append(4, []byte("?")))
		ok(t, d.Sync())
		l := open(t, d)
		hold(t, d, l, c.torn, c.records...)
		loose := 0
		if c.torn > 0 {
			loose = 1
		}
		if d.Loose() != loose || bytesOf(t, d, 2) != "another file" || bytesOf(t, d, 4) != "?" {
			t.Errorf("%q: %s", c.s, told(d))
		}
		hold(t, d, open(t, d), 0, c.records...) // now nothing is torn any more
		if d.Loose() != loose {
			t.Errorf("%q: %s", c.s, told(d))
		}
		put(t, l, "next") // it stands right behind them
		hold(t, d, l, c.torn, append(slices.Clone(c.records), "next")...)
		ok(t, d.Crash(0, 9))
		if bytesOf(t, d, 3) != c.s && c.torn > 0 {
			t.Errorf("%q is not as it was: %q", c.s, bytesOf(t, d, 3))
		}
		ok(t, d.Sync())
		if c.torn > 0 { // what was cut is there again, and cut again
			hold(t, d, open(t, d), c.torn, c.records...)
		}
	}
}

func TestAppend(t *testing.T) {
	d := made(t, 1<<18)
	l := open(t, d)
	end, loose := 0, 0
	var all []string
	for _, s := range some() {
		at, e := l.Append([]byte(s))
		all, loose = append(all, s), loose+1
		if e != api.OK || at != end || d.Loose() != loose || l.End() != at+8+len(s) || bytesOf(t, d, 3) != recordsOf(all...) {
			t.Fatalf("%d bytes: at %d, %v; end %d, loose %d", len(s), at, e, l.End(), d.Loose())
		}
		end += 8 + len(s)
	}
	was := told(d)
	for _, many := range []int{60001, 1 << 20} {
		if at, e := l.Append(make([]byte, many)); at != 0 || e != api.ErrLong || told(d) != was || l.End() != end {
			t.Error(many, at, e)
		}
	}
	if got := collect(l.Each(0)); len(got) != len(all) || got[8].at != end-60008 || l.Torn() != 0 {
		t.Error(len(got))
	}
}

// A record that there is no room for changes nothing; one that just has room goes.
func TestAppendFull(t *testing.T) {
	d := made(t, 40)
	l := open(t, d)
	put(t, l, "ab")
	ok(t, d.Append(9, []byte("0123456789"))) // another file takes room, too
	was := told(d)
	for _, c := range []struct {
		many int
		e    api.Errno
	}{
		{13, api.ErrFull}, {20, api.ErrFull}, {60000, api.ErrFull}, {60001, api.ErrLong}, // what may not be is told ahead of no room
	} {
		if at, e := l.Append(make([]byte, c.many)); at != 0 || e != c.e || told(d) != was || l.End() != 10 {
			t.Error(c.many, at, e, told(d))
		}
	}
	if put(t, l, "fifteen left") != 10 || d.Left() != 0 || l.End() != 30 {
		t.Error(told(d))
	}
	if at, e := l.Append(nil); at != 0 || e != api.ErrFull || l.End() != 30 {
		t.Error(at, e)
	}
	hold(t, d, l, 0, "ab", "fifteen left")
}

// Logs in other files of one disk go their own ways.
func TestLogsApart(t *testing.T) {
	d := made(t, 10000)
	var logs [64]*log.Log
	for file := range logs {
		l, e := log.Open(d, file)
		ok(t, e)
		logs[file] = l
	}
	for n := range 3 {
		for file, l := range logs {
			put(t, l, fmt.Sprint(n, " of ", file))
		}
	}
	for file, l := range logs {
		want, end := placesOf(fmt.Sprint("0 of ", file), fmt.Sprint("1 of ", file), fmt.Sprint("2 of ", file))
		if l.End() != end || !slices.Equal(collect(l.Each(0)), want) {
			t.Error(file, l.End(), collect(l.Each(0)))
		}
	}
}

// P10.3: Read, Each, End, Torn.

func TestRead(t *testing.T) {
	d := synced(t, 1000, recordsOf("ab", "")+"?")
	l := open(t, d)
	put(t, l, recordOf("inside")) // at 26 something looks like a record
	put(t, l, "")
	for _, c := range []struct {
		at   int
		s    string
		next int
		e    api.Errno
	}{
		{0, "ab", 10, api.OK}, {10, "", 18, api.OK}, {18, recordOf("inside"), 40, api.OK}, {40, "", 48, api.OK},
		{26, "", 0, api.ErrRange}, {48, "", 0, api.ErrRange}, {49, "", 0, api.ErrRange}, {1, "", 0, api.ErrRange}, {8, "", 0, api.ErrRange},
		{-1, "", 0, api.ErrRange}, {-8, "", 0, api.ErrRange}, {math.MinInt, "", 0, api.ErrRange}, {math.MaxInt, "", 0, api.ErrRange}, {math.MaxInt - 7, "", 0, api.ErrRange},
	} {
		b, next, e := l.Read(c.at)
		if string(b) != c.s || next != c.next || e != c.e || e != api.OK && b != nil {
			t.Errorf("%d: %q, %d, %v", c.at, b, next, e)
		}
	}
	hold(t, d, l, 1, "ab", "", recordOf("inside"), "")
}

func TestEach(t *testing.T) {
	d := made(t, 1000)
	l := open(t, d)
	records := []string{"ab", "", recordOf("inside"), "", "cde"}
	for _, s := range records {
		put(t, l, s)
	}
	all, end := placesOf(records...)
	for from := -2; from < end+3; from++ {
		var want []placed
		if i := slices.IndexFunc(all, func(p placed) bool { return p.at == from }); i >= 0 {
			want = all[i:]
		}
		if got := collect(l.Each(from)); !slices.Equal(got, want) {
			t.Errorf("from %d: %v", from, got)
		}
	}
	for _, from := range []int{math.MinInt, math.MaxInt, math.MaxInt - 7, end, end + 8, -8} {
		if got := collect(l.Each(from)); got != nil {
			t.Errorf("from %d: %v", from, got)
		}
	}
}

func TestEachIsLeft(t *testing.T) {
	d := made(t, 1000)
	l := open(t, d)
	for _, s := range []string{"a", "b", "c"} {
		put(t, l, s)
	}
	over := l.Each(9)
	for range 2 {
		for many := 1; many < 3; many++ {
			var got []string
			for at, b := range over {
				got = append(got, fmt.Sprint(at, string(b)))
				if len(got) == many {
					break
				}
			}
			if !slices.Equal(got, []string{"9b", "18c"}[:many]) {
				t.Error(got)
			}
		}
	}
	for range 2 { // and it may be gone over within itself
		var got []string
		for _, b := range over {
			for _, other := range over {
				got = append(got, string(b)+string(other))
			}
		}
		if !slices.Equal(got, []string{"bb", "bc", "cb", "cc"}) {
			t.Error(got)
		}
	}
}

// Records are told as they are when it comes to them: those that are put in meanwhile, too, be it while the last one is told.
func TestEachAsItComes(t *testing.T) {
	for _, puts := range [][]int{{0}, {1}, {2}, {1, 1}, {1, 0}, {2, 0, 1}, {1, 1, 1, 3, 0, 0, 1}} {
		d := made(t, 1000)
		l := open(t, d)
		over, behind := l.Each(0), l.Each(9)
		if collect(over) != nil || collect(behind) != nil {
			t.Error("records of an empty log")
		}
		put(t, l, "a")
		if collect(behind) != nil {
			t.Error("records at the end")
		}
		var got []placed
		for at, b := range over {
			got = append(got, placed{at, string(b)})
			if len(got) > len(puts) {
				continue
			}
			for range puts[len(got)-1] {
				put(t, l, "a")
			}
		}
		all := 1
		for _, many := range puts {
			all += many
		}
		want, _ := placesOf(slices.Repeat([]string{"a"}, all)...)
		if !slices.Equal(got, want) || !slices.Equal(collect(over), want) || len(collect(behind)) != all-1 {
			t.Errorf("%v: %v", puts, got)
		}
	}
}

// One who puts in as much as he is told ends where there is no room any more.
func TestEachEnds(t *testing.T) {
	d := made(t, 5000)
	l := open(t, d)
	put(t, l, "abc")
	many := 0
	for _, b := range l.Each(0) {
		l.Append(b)
		many++
	}
	if many != 5000/11 || l.End() != 5000/11*11 {
		t.Error(many, l.End())
	}
}

// What he who is told the records panics with is his.
func TestEachLetsPanic(t *testing.T) {
	d := made(t, 100)
	l := open(t, d)
	put(t, l, "abc")
	for _, thrown := range []any{"mine", api.ErrNil} {
		func() {
			defer func() {
				if given := recover(); given != thrown {
					t.Error(given)
				}
			}()
			for range l.Each(0) {
				panic(thrown)
			}
		}()
	}
	hold(t, d, l, 0, "abc")
}

// However many records there are, all of them are gone over in one go; this would not end, if each of them cost a look at all.
func TestManyRecords(t *testing.T) {
	const many = 1 << 20
	d := made(t, 8*many)
	ok(t, d.Append(3, make([]byte, 8*many-1))) // all but the last one are whole
	l := open(t, d)
	if l.End() != 8*(many-1) || l.Torn() != 7 {
		t.Fatal(l.End(), l.Torn())
	}
	n := 0
	for at, b := range l.Each(0) {
		if at != 8*n || len(b) != 0 {
			t.Fatal(n, at, b)
		}
		n++
	}
	if n != many-1 {
		t.Error(n)
	}
	if _, next, e := l.Read(8 * (many - 2)); next != l.End() || e != api.OK {
		t.Error(next, e)
	}
}

// P10.2 and P10.3, of none.
func TestNone(t *testing.T) {
	for _, l := range nones() {
		for _, b := range [][]byte{nil, []byte("ab"), make([]byte, 60001)} {
			if at, e := l.Append(b); at != 0 || e != api.ErrNil {
				t.Error(at, e)
			}
		}
		for _, at := range []int{0, -1, 8, math.MaxInt} {
			if b, next, e := l.Read(at); b != nil || next != 0 || e != api.ErrNil {
				t.Error(b, next, e)
			}
			if over := l.Each(at); over == nil || collect(over) != nil {
				t.Error(at, collect(over))
			}
		}
		if l.End() != 0 || l.Torn() != 0 {
			t.Error(l.End(), l.Torn())
		}
	}
}

// By the rule that nothing handed in is changed, or kept.
func TestNothingHandedInIsKept(t *testing.T) {
	d := made(t, 999)
	l := open(t, d)
	whole := []byte("abcdefgh")
	b := whole[:3:8]
	r, e := log.Record(b)
	ok(t, e)
	for range 2 {
		at, e := l.Append(b)
		if ok(t, e); at != l.End()-11 {
			t.Error(at)
		}
	}
	file := []byte(recordsOf("ab", "c") + "torn")
	if log.Whole(file[:19:len(file)]) != 19 || string(file) != recordsOf("ab", "c")+"torn" {
		t.Error(file)
	}
	if string(whole) != "abcdefgh" {
		t.Error(whole)
	}
	copy(whole, "????????")
	if string(r) != recordOf("abc") {
		t.Error(r)
	}
	hold(t, d, l, 0, "abc", "abc")
}

// By the rule that an answer is new memory.
func TestAnswersAreNew(t *testing.T) {
	d := made(t, 999)
	l := open(t, d)
	put(t, l, "abc")
	put(t, l, "defgh")
	spoil := func(b []byte) {
		copy(b, "?????")
		_ = append(b, "and more than there is"...)
		clear(b[:cap(b)])
	}
	one, _, e := l.Read(0)
	ok(t, e)
	two, _, e := l.Read(0)
	ok(t, e)
	spoil(one)
	if string(two) != "abc" {
		t.Error(two)
	}
	var kept [][]byte
	for _, b := range l.Each(0) {
		kept = append(kept, b)
		for _, other := range l.Each(0) {
			spoil(other)
		}
	}
	if string(kept[0]) != "abc" || string(kept[1]) != "defgh" {
		t.Errorf("%q", kept)
	}
	var got []string
	for _, b := range l.Each(0) { // what is done to the one that is told changes none that comes
		got = append(got, string(b))
		spoil(b)
	}
	if !slices.Equal(got, []string{"abc", "defgh"}) {
		t.Errorf("%q", got)
	}
	for _, b := range l.Each(0) {
		spoil(kept[0])
		if kept[0] = kept[1]; string(b) != "abc" && string(b) != "defgh" {
			t.Errorf("%q", b)
		}
	}
	r, e := log.Record([]byte("abc"))
	ok(t, e)
	spoil(r)
	hold(t, d, l, 0, "abc", "defgh")
}

// What a log that is left behind a crash, or behind another one's doings, answers is not promised; but each call ends, and none panics.
func TestOldLogEnds(t *testing.T) {
	for _, spoil := range []func(d *disk.Disk) api.Errno{
		func(d *disk.Disk) api.Errno { return d.Crash(0, 0) },
		func(d *disk.Disk) api.Errno { return d.Crash(1, 9) },
		func(d *disk.Disk) api.Errno { return d.Cut(3, 0) },
		func(d *disk.Disk) api.Errno { return d.Cut(3, 13) },
		func(d *disk.Disk) api.Errno { return d.Append(3, []byte("?")) },
		func(d *disk.Disk) api.Errno { return d.Append(3, bytes.Repeat([]byte("\xff"), 30)) },
		func(d *disk.Disk) api.Errno {
			return errnoOf(d.Cut(3, 0), d.Append(3, bytes.Repeat([]byte("\xff"), 30)))
		},
		func(d *disk.Disk) api.Errno {
			return errnoOf(d.Cut(3, 0), d.Append(3, make([]byte, 40)))
		},
	} {
		for from := range 4 {
			d := synced(t, 200, recordOf("ab"))
			l := open(t, d)
			for range 3 {
				put(t, l, "cd")
			}
			over, many := l.Each(10*from), 0
			for range over {
				if many++; many < 4 {
					ok(t, spoil(d))
				}
			}
			for at := -1; at < 60; at++ {
				l.Read(at)
				collect(l.Each(at))
			}
			l.Append([]byte("ef"))
			collect(over)
			l.End()
			l.Torn()
		}
	}
}

// errnoOf tells the first error of some.
func errnoOf(l ...api.Errno) api.Errno {
	for _, e := range l {
		if e != api.OK {
			return e
		}
	}
	return api.OK
}

// P10.4: what follows, of crashes, and of Whole.

// Of records, one behind the other, and the first part of one more, Whole tells how many bytes these are.
func TestWholeOfRecordsAndAPart(t *testing.T) {
	ends := []string{"", "a", "\x00\x00\x00\x00", recordOf("inside"), recordsOf("", "", ""), strings.Repeat("z", 300)}
	for many := range 4 {
		for n := range ends {
			right := recordsOf(slices.Repeat(ends[n:n+1], many)...)
			for _, next := range ends {
				r := recordOf(next)
				for part := range len(r) {
					if got := log.Whole([]byte(right + r[:part])); got != len(right) {
						t.Errorf("%d of %q, and %d bytes of %q: %d, not %d", many, ends[n], part, r, got, len(right))
					}
				}
				if got := log.Whole([]byte(right + r)); got != len(right)+len(r) {
					t.Errorf("%d of %q, and %q: %d", many, ends[n], r, got)
				}
			}
		}
	}
}

// Wherever a crash comes, a log that is opened anew has the first ones of the records, at least those that were synced.
func TestEachCrash(t *testing.T) {
	records := []string{"ab", "", "cde", recordOf("inside"), "f"}
	for synced := range len(records) + 1 {
		for keep := range len(records) + 2 - synced {
			for torn := range 24 {
				d := made(t, 200)
				l := open(t, d)
				for n, s := range records {
					if n == synced {
						ok(t, d.Sync())
					}
					put(t, l, s)
				}
				if synced == len(records) {
					ok(t, d.Sync())
				}
				ok(t, d.Crash(keep, torn))
				there, part := min(synced+keep, len(records)), 0
				if there < len(records) {
					part = min(torn, len(recordOf(records[there])))
				}
				if there < len(records) && part == len(recordOf(records[there])) {
					there, part = there+1, 0
				}
				l = open(t, d)
				hold(t, d, l, part, records[:there]...)
				put(t, l, "next")
				hold(t, d, l, part, append(slices.Clone(records[:there]), "next")...)
			}
		}
	}
}

// life is a log on a disk, and the records that it should have: lasting are how many a crash can't take.
type life struct {
	d       *disk.Disk
	l       *log.Log
	torn    int
	records []string
	lasting int
}

// deed does something to a life, as bytes say.
func (x *life) deed(t testing.TB, b [3]byte) {
	t.Helper()
	switch b[0] % 8 {
	case 0, 1, 2, 3:
		s := strings.Repeat(string(rune('a'+b[2]%26)), int(b[1]%40))
		if b[2]%5 == 0 {
			s = recordsOf(s, s)
		}
		was, end := told(x.d), x.l.End()
		at, e := x.l.Append([]byte(s))
		switch {
		case e == api.ErrFull && 8+len(s) > x.d.Left() && at == 0 && told(x.d) == was && x.l.End() == end:
		case e == api.OK && at == end:
			x.records = append(slices.Clip(x.records), s)
		default:
			t.Fatal(at, e)
		}
	case 4:
		ok(t, x.d.Append(5, []byte(strings.Repeat("?", int(b[1])%(1+min(3, x.d.Left())))))) // other files have loose things, too
	case 5:
		ok(t, x.d.Sync())
		x.lasting = len(x.records)
	case 6:
		x.crash(t, int(b[1]%8), int(b[2]%60))
	case 7:
		l, e := log.Open(x.d, 3)
		ok(t, e)
		x.l, x.torn = l, 0 // the log cut it already
	}
	hold(t, x.d, x.l, x.torn, x.records...)
}

// crash crashes the disk, and opens the log anew.
func (x *life) crash(t testing.TB, keep, torn int) {
	t.Helper()
	ok(t, x.d.Crash(keep, torn))
	was := bytesOf(t, x.d, 3)
	there := firstOf(was)
	if len(there) < x.lasting || len(there) > len(x.records) || !slices.Equal(there, x.records[:len(there)]) {
		t.Fatalf("%q, of %q, of which %d were synced", there, x.records, x.lasting)
	}
	x.l = open(t, x.d)
	x.records, x.lasting = there, len(there) // what is there behind a crash lasts
	x.torn = len(was) - len(recordsOf(there...))
}

func TestRandomLives(t *testing.T) {
	r := rand.New(rand.NewSource(10))
	for range 200 {
		d := made(t, 50+r.Intn(400))
		x := &life{d: d, l: open(t, d)}
		for range 60 {
			x.deed(t, [3]byte{byte(r.Intn(256)), byte(r.Intn(256)), byte(r.Intn(256))})
		}
	}
}

func FuzzAnyLife(f *testing.F) {
	f.Add(50, []byte("\x00\x01\x03\x05\x00\x00\x00\x02\x04\x06\x02\x02"))
	f.Add(300, []byte("\x00\x01\x0b\x05\x00\x00\x03\x01\x04\x00\x21\x05\x07\x04\x03\x06\x01\x03\x06\x00\x09"))
	f.Fuzz(func(t *testing.T, room int, b []byte) {
		d, e := disk.New(room)
		if e != api.OK || room > 1000 || len(b) > 300 {
			return
		}
		x := &life{d: d, l: open(t, d)}
		for ; len(b) >= 3; b = b[3:] {
			x.deed(t, [3]byte(b))
		}
	})
}

func FuzzAnyFile(f *testing.F) {
	f.Add([]byte(recordsOf("ab", "", recordOf("inside"))))
	f.Add([]byte(recordsOf("ab", "") + recordOf("cde")[:9]))
	f.Add(bytes.Repeat([]byte{0}, 23))
	f.Add([]byte("\xff\xff\xff\xff\x00\x00\x00\x00"))
	f.Fuzz(func(t *testing.T, b []byte) {
		if len(b) > 1000 {
			return
		}
		l := firstOf(string(b))
		many := len(recordsOf(l...))
		if log.Whole(b) != many {
			t.Fatal(log.Whole(b), many)
		}
		d := synced(t, 1001, string(b))
		hold(t, d, open(t, d), len(b)-many, l...)
	})
}
