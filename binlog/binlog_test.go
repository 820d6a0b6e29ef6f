package binlog_test

import (
	"cmp"
	"encoding/binary"
	"errors"
	"fmt"
	"hash/crc32"
	"iter"
	"math"
	"math/rand"
	"slices"
	"strings"
	"testing"

	"swingbridge/api"
	"swingbridge/binlog"
	"swingbridge/disk"
	"swingbridge/event"
)

// recordOf is the record of bytes (layer 10), as its words say it.
func recordOf(s string) string {
	b := binary.BigEndian.AppendUint32(nil, uint32(len(s)))
	b = binary.BigEndian.AppendUint32(b, crc32.Checksum([]byte(s), crc32.MakeTable(crc32.Castagnoli)))
	return string(b) + s
}

// partsOf are what the records have with which bytes begin, and the bytes behind these.
func partsOf(s string) (l []string, rest string) {
	for len(s) >= 8 {
		many := uint64(binary.BigEndian.Uint32([]byte(s)))
		if many > 60000 || many > uint64(len(s)-8) || !strings.HasPrefix(s, recordOf(s[8:8+many])) {
			break
		}
		l, s = append(l, s[8:8+many]), s[8+many:]
	}
	return l, s
}

// head is the first record's bytes of a segment.
func head(seg int) string { return string(binary.BigEndian.AppendUint64(nil, uint64(seg))) }

// fileOf is the file of a segment.
func fileOf(seg int) int { return 2 + seg%62 }

// fileWith is what a segment's file has, whose entries have these bytes.
func fileWith(seg int, entries ...string) string {
	s := recordOf(head(seg))
	for _, packed := range entries {
		s += recordOf(packed)
	}
	return s
}

func drop(name string) api.Event { return api.Event{Kind: api.EventDrop, Table: name} }

// drops is one event for each letter.
func drops(letters string) (l []api.Event) {
	for _, r := range letters {
		l = append(l, drop(string(r)))
	}
	return l
}

// packed is the bytes of events.
func packed(t testing.TB, l ...api.Event) string {
	t.Helper()
	b, e := event.Pack(l...)
	ok(t, e)
	return string(b)
}

// wide is an event of more than 1600 bytes.
func wide() api.Event {
	row := slices.Repeat([]api.Value{{Kind: api.ValueBytes, Bytes: strings.Repeat("w", 200)}}, 8)
	return api.Event{Kind: api.EventInsert, Table: "w", New: row}
}

// sized are events whose bytes are so many, at least 10.
func sized(t testing.TB, many int) (l []api.Event) {
	t.Helper()
	left := many - 2 // how many events there are
	w := len(packed(t, wide())) - 2
	for ; left >= w+7; left -= w {
		l = append(l, wide())
	}
	for left > 0 {
		part := min(left, 30) // an EventDrop of a name of 24 letters has so many
		if rest := left - part; rest > 0 && rest < 7 {
			part -= 7
		}
		l = append(l, drop(strings.Repeat("s", part-6)))
		left -= part
	}
	if len(packed(t, l...)) != many {
		t.Fatal(many, len(packed(t, l...)))
	}
	return l
}

func ok(t testing.TB, e api.Errno) {
	t.Helper()
	if e != api.OK {
		t.Fatal(e)
	}
}

func made(t testing.TB, room int) *disk.Disk {
	t.Helper()
	d, e := disk.New(room)
	ok(t, e)
	return d
}

// synced makes a disk whose files have these bytes, and last.
func synced(t testing.TB, room int, files map[int]string) *disk.Disk {
	t.Helper()
	d := made(t, room)
	for file, s := range files {
		ok(t, d.Append(file, []byte(s)))
	}
	ok(t, d.Sync())
	return d
}

func open(t testing.TB, d *disk.Disk) *binlog.Binlog {
	t.Helper()
	b, e := binlog.Open(d)
	ok(t, e)
	if b == nil {
		t.Fatal("no binlog")
	}
	return b
}

func put(t testing.TB, b *binlog.Binlog, l ...api.Event) api.Pos {
	t.Helper()
	at, e := b.Append(l...)
	ok(t, e)
	return at
}

func pos(seg, at int) api.Pos { return api.Pos{Seg: seg, At: at} }

// told is what can be told of a disk, as a text.
func told(d *disk.Disk) string {
	var s strings.Builder
	fmt.Fprint(&s, "loose ", d.Loose(), ", left ", d.Left())
	for file := range d.Files() {
		b, e := d.Read(file)
		fmt.Fprintf(&s, "; %d: %q %v", file, b, e)
	}
	return s.String()
}

// nones are binlogs that are not there.
func nones() []*binlog.Binlog { return []*binlog.Binlog{nil, {}} }

// placed is an entry, as the bytes of its events, and where it begins.
type placed struct {
	at     api.Pos
	packed string
}

func collect(t testing.TB, over iter.Seq2[api.Pos, []api.Event]) (l []placed) {
	t.Helper()
	for at, x := range over {
		l = append(l, placed{at, packed(t, x...)})
	}
	return l
}

// segment is a segment's number, and what its entries have.
type segment struct {
	seg     int
	entries []string
}

func (s segment) end() int {
	end := 16
	for _, e := range s.entries {
		end += 8 + len(e)
	}
	return end
}

// model is a binlog as the words say it, over a disk of its own, to which just that is done which the words say.
type model struct {
	d    *disk.Disk
	segs []segment
}

func (m *model) last() *segment { return &m.segs[len(m.segs)-1] }

func (m *model) must(t testing.TB, e api.Errno) {
	t.Helper()
	if e != api.OK {
		t.Fatal("the model's disk: ", e)
	}
}

// opened is the model of the binlog that a disk has.
func opened(t testing.TB, d *disk.Disk) (*model, api.Errno) {
	t.Helper()
	m := &model{d: d}
	rests, torn, left := map[int]int{}, []int{}, d.Left()
	for file := 2; file < 64; file++ {
		b, _ := d.Read(file)
		records, rest := partsOf(string(b))
		if len(records) == 0 {
			if len(b) > 0 {
				torn = append(torn, file)
				left += len(b)
			}
			continue
		}
		first := records[0]
		if len(first) != 8 {
			return nil, api.ErrBinlog
		}
		n := binary.BigEndian.Uint64([]byte(first))
		if n < 1 || n > 1<<40 || fileOf(int(n)) != file {
			return nil, api.ErrBinlog
		}
		for _, s := range records[1:] {
			if _, e := event.Unpack([]byte(s)); e != api.OK {
				return nil, api.ErrBinlog
			}
		}
		m.segs = append(m.segs, segment{int(n), records[1:]})
		rests[int(n)] = len(rest)
	}
	slices.SortFunc(m.segs, func(a, b segment) int { return cmp.Compare(a.seg, b.seg) })
	for i, s := range m.segs {
		if s.seg != m.segs[0].seg+i || i < len(m.segs)-1 && rests[s.seg] > 0 {
			return nil, api.ErrBinlog
		}
	}
	if len(m.segs) == 0 && left < 16 {
		return nil, api.ErrFull
	}
	if len(m.segs) > 0 && rests[m.last().seg] > 0 {
		m.must(t, d.Cut(fileOf(m.last().seg), m.last().end()))
	}
	for _, file := range torn {
		m.must(t, d.Cut(file, 0))
	}
	if len(m.segs) == 0 {
		m.begin(t, 1)
	}
	return m, api.OK
}

func (m *model) begin(t testing.TB, seg int) {
	t.Helper()
	m.segs = append(m.segs, segment{seg: seg})
	m.must(t, m.d.Append(fileOf(seg), []byte(fileWith(seg))))
}

// mayBegin tells whether a segment may be begun, and so many bytes more laid.
func (m *model) mayBegin(more int) api.Errno {
	if b, _ := m.d.Read(fileOf(m.last().seg + 1)); len(b) > 0 || m.d.Left() < 16+more {
		return api.ErrFull
	}
	return api.OK
}

func (m *model) rotate(t testing.TB) api.Errno {
	t.Helper()
	e := m.mayBegin(0)
	if e == api.OK {
		m.begin(t, m.last().seg+1)
	}
	return e
}

func (m *model) append(t testing.TB, l ...api.Event) (api.Pos, api.Errno) {
	t.Helper()
	b, e := event.Pack(l...)
	if e != api.OK {
		return api.Pos{}, e
	}
	if len(b) > 60000 {
		return api.Pos{}, api.ErrLong
	}
	record := recordOf(string(b))
	if m.last().end() >= 3000 {
		if e := m.mayBegin(len(record)); e != api.OK {
			return api.Pos{}, e
		}
		m.begin(t, m.last().seg+1)
	}
	if m.d.Left() < len(record) {
		return api.Pos{}, api.ErrFull
	}
	at := m.end()
	m.must(t, m.d.Append(fileOf(at.Seg), []byte(record)))
	m.last().entries = append(slices.Clip(m.last().entries), string(b))
	return at, api.OK
}

func (m *model) purge(t testing.TB, seg int) api.Errno {
	t.Helper()
	if seg < m.segs[0].seg || seg > m.last().seg {
		return api.ErrRange
	}
	for m.segs[0].seg < seg {
		m.must(t, m.d.Cut(fileOf(m.segs[0].seg), 0))
		m.segs = m.segs[1:]
	}
	return api.OK
}

func (m *model) first() api.Pos { return pos(m.segs[0].seg, 16) }

func (m *model) end() api.Pos { return pos(m.last().seg, m.last().end()) }

// all are all entries, each where it begins.
func (m *model) all() (l []placed) {
	for _, s := range m.segs {
		at := 16
		for _, e := range s.entries {
			l = append(l, placed{pos(s.seg, at), e})
			at += 8 + len(e)
		}
	}
	return l
}

// read tells which of all entries is read at a position.
func (m *model) read(all []placed, at api.Pos) (int, api.Errno) {
	if at.Seg >= 0 && at.Seg < m.segs[0].seg {
		return 0, api.ErrGone
	}
	for i, x := range all {
		if x.at == at {
			return i, api.OK
		}
	}
	for _, s := range m.segs {
		if at != pos(s.seg, s.end()) {
			continue
		}
		for i, x := range all {
			if x.at.Seg > at.Seg {
				return i, api.OK
			}
		}
		return 0, api.ErrEnd
	}
	return 0, api.ErrRange
}

// places are positions, and what stands close to them.
func (m *model) places() (l []api.Pos) {
	segs := []int{math.MinInt, -1, 0, m.segs[0].seg - 1, m.last().seg + 1, math.MaxInt}
	for _, s := range m.segs {
		segs = append(segs, s.seg)
		for _, d := range []int{-1, 0, 1} {
			l = append(l, pos(s.seg, s.end()+d))
		}
	}
	for _, seg := range segs {
		for _, at := range []int{math.MinInt, -1, 0, 8, 15, 16, 17, math.MaxInt} {
			l = append(l, pos(seg, at))
		}
	}
	for _, x := range m.all() {
		for _, d := range []int{-1, 0, 1, 8} {
			l = append(l, pos(x.at.Seg, x.at.At+d))
		}
	}
	return l
}

// hold holds a binlog, and its disk, against a model.
func hold(t testing.TB, b *binlog.Binlog, d *disk.Disk, m *model) {
	t.Helper()
	if !disk.Same(d, m.d) {
		t.Fatalf("the disk: %.900s, not %.900s", told(d), told(m.d))
	}
	if b.First() != m.first() || b.End() != m.end() {
		t.Fatal(b.First(), b.End(), "not", m.first(), m.end())
	}
	all := m.all()
	if got := collect(t, b.Each(b.First())); !slices.Equal(got, all) {
		t.Fatalf("%v, not %v", got, all)
	}
	for _, at := range m.places() {
		holdRead(t, b, m, all, at)
	}
}

func holdRead(t testing.TB, b *binlog.Binlog, m *model, all []placed, at api.Pos) {
	t.Helper()
	i, want := m.read(all, at)
	l, next, e := b.Read(at)
	switch {
	case e != want:
		t.Fatal(at, e, "not", want)
	case e != api.OK && (l != nil || next != api.Pos{}):
		t.Fatal(at, l, next, e)
	case e == api.OK && (packed(t, l...) != all[i].packed || next != pos(all[i].at.Seg, all[i].at.At+8+len(all[i].packed))):
		t.Fatal(at, l, next, "not", all[i])
	}
}

// twins opens a binlog, and its model, on disks like this one.
func twins(t testing.TB, d *disk.Disk) (*binlog.Binlog, *disk.Disk, *model) {
	t.Helper()
	own := d.Copy()
	m, e := opened(t, own)
	ok(t, e)
	b := open(t, d)
	hold(t, b, d, m)
	return b, d, m
}

// P15.1: Open, Append, Rotate.

func TestExamples(t *testing.T) {
	b := open(t, made(t, 10000))
	if b.First() != pos(1, 16) || put(t, b, drop("t")) != pos(1, 16) || put(t, b) != pos(1, 33) {
		t.Error(b.First(), b.End())
	}
	if l, next, e := b.Read(b.First()); len(l) != 1 || !event.Same(l[0], drop("t")) || next != pos(1, 33) || e != api.OK {
		t.Error(l, next, e)
	}
	ok(t, b.Rotate())
	if at := put(t, b, drop("u")); at != pos(2, 16) {
		t.Error(at)
	}
	if l, next, e := b.Read(pos(1, 42)); len(l) != 1 || !event.Same(l[0], drop("u")) || next != pos(2, 33) || e != api.OK {
		t.Error(l, next, e)
	}
	ok(t, b.Purge(2))
	if _, _, e := b.Read(pos(1, 16)); e != api.ErrGone || b.First() != pos(2, 16) {
		t.Error(e, b.First())
	}
}

func TestOpen(t *testing.T) {
	for _, room := range []int{16, 17, 10000} {
		d := made(t, room)
		b := open(t, d)
		if s, e := d.Read(3); string(s) != fileWith(1) || e != api.OK || d.Loose() != 1 || d.Left() != room-16 {
			t.Error(told(d))
		}
		if b.First() != pos(1, 16) || b.End() != pos(1, 16) || collect(t, b.Each(pos(1, 16))) != nil {
			t.Error(b.First(), b.End())
		}
		twins(t, d)
	}
	for _, d := range []*disk.Disk{nil, {}} {
		if b, e := binlog.Open(d); b != nil || e != api.ErrNil {
			t.Error(b, e)
		}
	}
}

// The files 0 and 1 are somebody else's, whatever they have.
func TestOpenLeavesOthers(t *testing.T) {
	others := map[int]string{0: "?", 1: fileWith(61) + "?"}
	b, d, _ := twins(t, synced(t, 1000, others))
	put(t, b, drop("t"))
	ok(t, b.Rotate())
	ok(t, b.Purge(2))
	for file, s := range others {
		if got, _ := d.Read(file); string(got) != s {
			t.Errorf("%q", got)
		}
	}
	files := map[int]string{0: fileWith(60, "?"), 1: recordOf("?"), 5: fileWith(3, "\x00"), 6: fileWith(4)}
	if b, _, _ := twins(t, synced(t, 1000, files)); b.First() != pos(3, 16) || b.End() != pos(4, 16) {
		t.Error(b.First(), b.End())
	}
}

// Room for segment 1 is there, or is not, once what is no whole record is cut.
func TestOpenFull(t *testing.T) {
	for _, c := range []struct {
		room  int
		files map[int]string
		e     api.Errno
	}{
		{15, nil, api.ErrFull},
		{1, nil, api.ErrFull},
		{16, map[int]string{0: "?"}, api.ErrFull},
		{17, map[int]string{1: "?"}, api.OK},
		{100, map[int]string{0: strings.Repeat("?", 85)}, api.ErrFull},
		{100, map[int]string{0: strings.Repeat("?", 84)}, api.OK},
		{20, map[int]string{2: "1234567890", 63: "1234567890"}, api.OK},
		{20, map[int]string{1: "12345", 2: "1234567890", 3: "12345"}, api.ErrFull},
		{20, map[int]string{1: "1234", 2: "1234567890", 3: "12345"}, api.OK},
		{15, map[int]string{3: "123456789012345"}, api.ErrFull},
		{16, map[int]string{7: fileWith(5)}, api.OK}, // there is a segment
		{16, map[int]string{3: recordOf("12345678")}, api.ErrBinlog},
	} {
		d := synced(t, c.room, c.files)
		was := told(d)
		b, e := binlog.Open(d)
		if e != c.e || (b == nil) != (e != api.OK) || e != api.OK && told(d) != was {
			t.Errorf("%d, %v: %v; %s", c.room, c.files, e, told(d))
		}
		if e == api.OK {
			twins(t, synced(t, c.room, c.files))
		}
	}
}

// Beside what is no whole record, and ahead of it, only the last segment's end is cut; all of that is loose.
func TestOpenCuts(t *testing.T) {
	entry, empty := packed(t, drop("t")), packed(t)
	for _, c := range []struct {
		files       map[int]string
		first, last api.Pos
		loose       int
	}{
		{map[int]string{3: fileWith(1, entry, empty)}, pos(1, 16), pos(1, 42), 0},
		{map[int]string{3: fileWith(1, entry, empty) + "?"}, pos(1, 16), pos(1, 42), 1},
		{map[int]string{3: fileWith(1, entry, empty)[:41]}, pos(1, 16), pos(1, 33), 1},
		{map[int]string{3: fileWith(1)[:15]}, pos(1, 16), pos(1, 16), 2},
		{map[int]string{3: "?"}, pos(1, 16), pos(1, 16), 2},
		{map[int]string{4: "?"}, pos(1, 16), pos(1, 16), 2},
		{map[int]string{2: "?", 63: "?"}, pos(1, 16), pos(1, 16), 3},
		{map[int]string{3: fileWith(1, entry), 4: fileWith(2)[:9]}, pos(1, 16), pos(1, 33), 1},
		{map[int]string{3: fileWith(1, entry), 4: fileWith(2) + "?"}, pos(1, 16), pos(2, 16), 1},
		{map[int]string{3: "?", 4: fileWith(2, empty)}, pos(2, 16), pos(2, 25), 1},
		{map[int]string{2: "?", 30: fileWith(28) + recordOf("?")[:8], 63: "??"}, pos(28, 16), pos(28, 16), 3},
		{map[int]string{63: fileWith(61, empty), 2: fileWith(62), 3: fileWith(63, entry) + "\x00", 4: "?"}, pos(61, 16), pos(63, 33), 2},
	} {
		d := synced(t, 1000, c.files)
		b, d, m := twins(t, d)
		if b.First() != c.first || b.End() != c.last || d.Loose() != c.loose {
			t.Errorf("%v: %v, %v; %s", c.files, b.First(), b.End(), told(d))
		}
		for range 2 { // once more nothing is done
			hold(t, open(t, d), d, m)
		}
		at, e := b.Append(drop("next"))
		want, _ := m.append(t, drop("next"))
		if hold(t, b, d, m); at != want || e != api.OK {
			t.Error(at, e)
		}
		ok(t, d.Crash(0, 0))
		if told(d) != told(synced(t, 1000, c.files)) {
			t.Error(told(d))
		}
	}
}

// Last's end is cut first, then the others by their files, then segment 1 is begun: so a crash keeps them.
func TestOpenInOrder(t *testing.T) {
	files := map[int]string{2: "a", 10: fileWith(8) + "b", 63: "c"}
	for keep, want := range []map[int]string{
		files,
		{2: "a", 10: fileWith(8), 63: "c"},
		{10: fileWith(8), 63: "c"},
		{10: fileWith(8)},
	} {
		d := synced(t, 100, files)
		open(t, d)
		ok(t, d.Crash(keep, 9))
		if told(d) != told(synced(t, 100, want)) {
			t.Error(keep, told(d))
		}
	}
	files = map[int]string{2: "a", 3: "b", 63: "c"}
	for keep, want := range []map[int]string{files, {3: "b", 63: "c"}, {63: "c"}, {}, {3: fileWith(1)}} {
		d := synced(t, 100, files)
		open(t, d)
		ok(t, d.Crash(keep, 0))
		if told(d) != told(synced(t, 100, want)) {
			t.Error(keep, told(d))
		}
	}
}

// Files that are no binlog are refused, and stay as they are, what is loose, too.
func TestOpenBinlog(t *testing.T) {
	entry, empty := packed(t, drop("t")), packed(t)
	for n, files := range []map[int]string{
		{3: recordOf("")},
		{3: recordOf("1234567")},
		{3: recordOf("\x01")},
		{3: recordOf("\x00\x00\x00\x00\x00\x00\x01")},
		{3: recordOf(head(1) + "\x00")},
		{3: recordOf("\x00" + head(1))},
		{3: recordOf(entry)},
		{2: fileWith(0)},
		{2: fileWith(1)},
		{4: fileWith(1)},
		{3: fileWith(2)},
		{3: fileWith(62)},
		{2: fileWith(61)},
		{63: fileWith(62)},
		{3: fileWith(-61)}, // 2 + n modulo 62, n not below 2^40
		{fileOf(1<<40 + 1): fileWith(1<<40 + 1)},
		{2: fileWith(math.MinInt)},
		{17: recordOf("\xff\xff\xff\xff\xff\xff\xff\xff")},
		{3: recordOf("\x80\x00\x00\x00\x00\x00\x00\x01")},
		{3: fileWith(1, "")},
		{3: fileWith(1, "?")},
		{3: fileWith(1, entry, empty+"\x00")},
		{3: fileWith(1, empty, entry[1:], entry)},
		{3: fileWith(1, head(2))},
		{3: fileWith(1), 5: fileWith(3)},
		{3: fileWith(1), 4: fileWith(2), 6: fileWith(4)},
		{3: fileWith(1), 63: fileWith(61)},
		{3: fileWith(63), 4: fileWith(2)},
		{3: fileWith(63), 4: fileWith(2), 63: fileWith(61)},
		{3: fileWith(1), 2: fileWith(62)},
		{3: fileWith(1) + "?", 4: fileWith(2)},
		{3: fileWith(1, entry, empty)[:41], 4: fileWith(2)},
		{3: fileWith(1), 4: fileWith(2) + recordOf("?")[:8], 5: fileWith(3)},
		{3: fileWith(1), 4: fileWith(2, "?")},
		{3: fileWith(1, "?"), 4: fileWith(2)},
		{3: fileWith(1), 4: recordOf("?")},
		{3: fileWith(1), 4: fileWith(3)},
		{3: fileWith(1), 50: fileWith(1)},
		{2: "?", 3: fileWith(1), 4: fileWith(2) + "?", 60: recordOf("")}, // nothing is cut, either
	} {
		d := synced(t, 1000, files)
		ok(t, d.Append(0, []byte("loose")))
		was := d.Copy()
		if _, e := opened(t, d.Copy()); e != api.ErrBinlog {
			t.Error(n, "the model: ", e)
		}
		if b, e := binlog.Open(d); b != nil || e != api.ErrBinlog || !disk.Same(d, was) {
			t.Error(n, b, e, told(d))
		}
	}
}

// All numbers from 1 to 2^40 are segments'.
func TestOpenNumbers(t *testing.T) {
	for _, seg := range []int{1, 2, 61, 62, 63, 64, 123, 124, 125, 255, 256, 1 << 20, 1<<32 - 1, 1 << 32, 1<<32 + 1, 1<<40 - 2, 1<<40 - 1} {
		d := synced(t, 1000, map[int]string{fileOf(seg): fileWith(seg, "\x00"), fileOf(seg + 1): fileWith(seg + 1)})
		b, d, m := twins(t, d)
		if b.First() != pos(seg, 16) || b.End() != pos(seg+1, 16) {
			t.Error(b.First(), b.End())
		}
		put(t, b)
		m.append(t)
		hold(t, b, d, m)
		if seg+1 < 1<<40 {
			ok(t, b.Rotate())
			m.rotate(t)
			hold(t, b, d, m)
		}
	}
	b, _, _ := twins(t, synced(t, 100, map[int]string{fileOf(1 << 40): fileWith(1 << 40)}))
	if b.First() != pos(1<<40, 16) || put(t, b) != pos(1<<40, 16) {
		t.Error(b.First())
	}
}

// Segments follow one another round and round the files, however many there are.
func TestOpenMany(t *testing.T) {
	for _, many := range []int{2, 61, 62} {
		for _, first := range []int{1, 2, 30, 61, 62, 63, 1000} {
			files := map[int]string{}
			for seg := first; seg < first+many; seg++ {
				files[fileOf(seg)] = fileWith(seg, packed(t, drop("t")), "\x00")
			}
			b, _, _ := twins(t, synced(t, 10000, files))
			if got := collect(t, b.Each(b.First())); len(got) != 2*many || b.First().Seg != first || b.End() != pos(first+many-1, 42) {
				t.Error(many, first, b.First(), b.End(), len(got))
			}
			if many < 62 {
				ok(t, b.Rotate())
			} else if e := b.Rotate(); e != api.ErrFull {
				t.Error(many, first, e)
			}
			for seg := first; seg < first+many; seg++ { // without one of them, be it not at an end, they are none
				gap := map[int]string{}
				for file, s := range files {
					if file != fileOf(seg) {
						gap[file] = s
					}
				}
				d := synced(t, 10000, gap)
				want := api.ErrBinlog
				if seg == first || seg == first+many-1 {
					want = api.OK
				}
				if _, e := binlog.Open(d); e != want {
					t.Error(many, first, seg, e)
				}
			}
		}
	}
}

func TestAppend(t *testing.T) {
	b, d, m := twins(t, made(t, 200000))
	wrong := api.Event{Kind: api.EventDrop, Table: "T"}
	for n, c := range []struct {
		l []api.Event
		e api.Errno
	}{
		{nil, api.OK},
		{[]api.Event{}, api.OK},
		{drops("t"), api.OK},
		{drops("abc"), api.OK},
		{[]api.Event{wide(), drop("t")}, api.OK},
		{slices.Repeat(drops("t"), 100), api.OK},
		{slices.Repeat(drops("t"), 101), api.ErrLong},
		{[]api.Event{wrong}, api.ErrArg},
		{[]api.Event{{}}, api.ErrArg},
		{append(drops("abc"), wrong), api.ErrArg},
		{append([]api.Event{wrong}, drops("abc")...), api.ErrArg},
		{append(slices.Repeat(drops("t"), 100), wrong), api.ErrLong}, // too many are told ahead of one that may not be
		{slices.Repeat([]api.Event{wrong}, 101), api.ErrLong},
		{slices.Repeat([]api.Event{wide()}, 100), api.ErrLong},
		{append(slices.Repeat([]api.Event{wide()}, 99), wrong), api.ErrArg},
		{sized(t, 60000), api.OK},
		{sized(t, 60001), api.ErrLong},
		{sized(t, 60000), api.OK},
	} {
		at, e := b.Append(c.l...)
		want, wantE := m.append(t, c.l...)
		if at != want || e != c.e || e != wantE {
			t.Fatal(n, at, e, "not", want, c.e)
		}
		hold(t, b, d, m)
	}
	hold(t, open(t, d), d, m)
}

// A segment that has 3000 bytes or more is followed by another one, as soon as an entry comes; one of fewer is not, however long the entry is.
func TestAppendBegins(t *testing.T) {
	for _, c := range []struct {
		first []int // how many bytes entries have
		seg   int   // which segment the next one comes to
	}{
		{[]int{2975}, 1}, {[]int{2976}, 2}, {[]int{2977}, 2}, {[]int{1000, 1959}, 1}, {[]int{1000, 1960, 1000, 1000}, 2}, {[]int{1000, 1967, 1000}, 2},
		{[]int{2975, 60000}, 2}, {[]int{60000, 2975}, 2}, {[]int{60000, 2976}, 3}, {[]int{2976, 2976, 2976}, 4}, {[]int{2975, 10, 2975, 10, 10}, 3},
	} {
		b, d, m := twins(t, made(t, 200000))
		for _, many := range append(slices.Clone(c.first), 10) {
			at, e := b.Append(sized(t, many)...)
			want, _ := m.append(t, sized(t, many)...)
			if e != api.OK || at != want {
				t.Fatal(c, many, at, e, "not", want)
			}
			hold(t, b, d, m)
		}
		if b.End().Seg != c.seg {
			t.Error(c, b.End())
		}
		hold(t, open(t, d), d, m)
	}
}

// For an entry that there is no room for no segment is begun.
func TestAppendFull(t *testing.T) {
	for _, c := range []struct {
		room, many int // of the disk, and of the second entry's bytes
		e          api.Errno
	}{
		{3000, 10, api.ErrFull}, {3016, 10, api.ErrFull}, {3033, 10, api.ErrFull}, {3034, 10, api.OK}, {3035, 10, api.OK}, {3034, 11, api.ErrFull},
		{3034, 60000, api.ErrFull}, {3034, 60001, api.ErrLong}, {3000, 60001, api.ErrLong}, {63024, 60000, api.OK}, {63023, 60000, api.ErrFull},
	} {
		d := made(t, c.room)
		b := open(t, d)
		put(t, b, sized(t, 2976)...)
		b, d, m := twins(t, d)
		at, e := b.Append(sized(t, c.many)...)
		want, wantE := m.append(t, sized(t, c.many)...)
		if at != want || e != c.e || e != wantE {
			t.Error(c, at, e)
		}
		hold(t, b, d, m)
	}
	d := made(t, 42)
	b := open(t, d)
	put(t, b, drop("t"))
	b, d, m := twins(t, d)
	for _, l := range [][]api.Event{drops("t"), drops("tu"), sized(t, 60000)} {
		if at, e := b.Append(l...); at != (api.Pos{}) || e != api.ErrFull {
			t.Error(at, e)
		}
		hold(t, b, d, m)
	}
	if e := b.Rotate(); e != api.ErrFull || put(t, b) != pos(1, 33) || d.Left() != 0 {
		t.Error(e, told(d))
	}
	if at, e := b.Append(); at != (api.Pos{}) || e != api.ErrFull {
		t.Error(at, e)
	}
	if _, e := b.Append(api.Event{}); e != api.ErrArg { // what may not be is told ahead of no room
		t.Error(e)
	}
}

// A segment is not begun in a file that is not empty, be it of another segment, or somebody else's.
func TestAppendTaken(t *testing.T) {
	b, d, m := twins(t, made(t, 1<<20))
	ok(t, d.Append(4, []byte("?")))
	m.must(t, m.d.Append(4, []byte("?")))
	if e := b.Rotate(); e != api.ErrFull {
		t.Error(e)
	}
	for _, many := range []int{2975, 10} {
		put(t, b, sized(t, many)...)
		m.append(t, sized(t, many)...)
	}
	for _, c := range []struct {
		l []api.Event
		e api.Errno
	}{{nil, api.ErrFull}, {drops("t"), api.ErrFull}, {sized(t, 60001), api.ErrLong}, {[]api.Event{{}}, api.ErrArg}} {
		if at, e := b.Append(c.l...); at != (api.Pos{}) || e != c.e {
			t.Error(at, e)
		}
		hold(t, b, d, m)
	}
	ok(t, d.Cut(4, 0))
	m.must(t, m.d.Cut(4, 0))
	if at := put(t, b); at != pos(2, 16) {
		t.Error(at)
	}
	m.append(t)
	hold(t, b, d, m)
}

// There are at most 62 segments; purging makes way for more.
func TestSixtyTwoSegments(t *testing.T) {
	b, d, m := twins(t, made(t, 1<<20))
	for seg := 2; seg <= 62; seg++ {
		ok(t, b.Rotate())
		m.rotate(t)
	}
	if e := b.Rotate(); e != api.ErrFull || b.End() != pos(62, 16) {
		t.Error(e, b.End())
	}
	put(t, b, sized(t, 2976)...)
	m.append(t, sized(t, 2976)...)
	if at, e := b.Append(); at != (api.Pos{}) || e != api.ErrFull {
		t.Error(at, e)
	}
	hold(t, b, d, m)
	ok(t, b.Purge(3))
	m.purge(t, 3)
	if at := put(t, b, drop("t")); at != pos(63, 16) {
		t.Error(at)
	}
	m.append(t, drop("t"))
	ok(t, b.Rotate())
	m.rotate(t)
	if e := b.Rotate(); e != api.ErrFull || b.First() != pos(3, 16) || b.End() != pos(64, 16) {
		t.Error(e, b.First(), b.End())
	}
	hold(t, b, d, m)
	hold(t, open(t, d), d, m)
}

func TestRotate(t *testing.T) {
	b, d, m := twins(t, made(t, 3*16+9))
	ok(t, b.Rotate()) // also if there is no entry yet
	m.rotate(t)
	hold(t, b, d, m)
	put(t, b)
	m.append(t)
	ok(t, b.Rotate())
	m.rotate(t)
	hold(t, b, d, m)
	if e := b.Rotate(); e != api.ErrFull {
		t.Error(e)
	}
	hold(t, b, d, m)
	hold(t, open(t, d), d, m)
}

// P15.2: Read, Each.

// some is a binlog of five segments, from 3 on, of which 4, 5 and 7 have no entries.
func some(t testing.TB) (*binlog.Binlog, *disk.Disk, *model) {
	t.Helper()
	d := made(t, 1000)
	b := open(t, d)
	put(t, b, drop("gone"))
	for _, letters := range []string{"", "ab", "", "", "c", ""} {
		ok(t, b.Rotate())
		for _, x := range drops(letters) {
			put(t, b, x)
		}
	}
	ok(t, b.Purge(3))
	return twins(t, d)
}

func TestRead(t *testing.T) {
	b, d, m := some(t)
	all := m.all()
	for _, c := range []struct {
		at   api.Pos
		x    string
		next api.Pos
		e    api.Errno
	}{
		{pos(3, 16), "a", pos(3, 33), api.OK}, {pos(3, 33), "b", pos(3, 50), api.OK}, {pos(3, 50), "c", pos(6, 33), api.OK},
		{pos(4, 16), "c", pos(6, 33), api.OK}, {pos(5, 16), "c", pos(6, 33), api.OK}, {pos(6, 16), "c", pos(6, 33), api.OK},
		{pos(6, 33), "", api.Pos{}, api.ErrEnd}, {pos(7, 16), "", api.Pos{}, api.ErrEnd},
		{pos(2, 16), "", api.Pos{}, api.ErrGone}, {pos(1, 16), "", api.Pos{}, api.ErrGone}, {pos(0, 16), "", api.Pos{}, api.ErrGone},
		{pos(2, 33), "", api.Pos{}, api.ErrGone}, {pos(2, 0), "", api.Pos{}, api.ErrGone}, {pos(2, -1), "", api.Pos{}, api.ErrGone}, {api.Pos{}, "", api.Pos{}, api.ErrGone},
		{pos(1, math.MaxInt), "", api.Pos{}, api.ErrGone}, {pos(0, math.MinInt), "", api.Pos{}, api.ErrGone},
		{pos(-1, 16), "", api.Pos{}, api.ErrRange}, {pos(8, 16), "", api.Pos{}, api.ErrRange}, {pos(math.MinInt, 16), "", api.Pos{}, api.ErrRange}, {pos(math.MaxInt, 16), "", api.Pos{}, api.ErrRange},
		{pos(65, 16), "", api.Pos{}, api.ErrRange}, {pos(3-62, 16), "", api.Pos{}, api.ErrRange}, // of the file that segment 3 has
		{pos(3, 0), "", api.Pos{}, api.ErrRange}, {pos(3, 8), "", api.Pos{}, api.ErrRange}, {pos(3, 15), "", api.Pos{}, api.ErrRange}, {pos(3, 17), "", api.Pos{}, api.ErrRange},
		{pos(3, 51), "", api.Pos{}, api.ErrRange}, {pos(3, -1), "", api.Pos{}, api.ErrRange}, {pos(3, math.MinInt), "", api.Pos{}, api.ErrRange}, {pos(3, math.MaxInt), "", api.Pos{}, api.ErrRange},
		{pos(4, 0), "", api.Pos{}, api.ErrRange}, {pos(4, 33), "", api.Pos{}, api.ErrRange}, {pos(7, 0), "", api.Pos{}, api.ErrRange}, {pos(7, 17), "", api.Pos{}, api.ErrRange},
	} {
		l, next, e := b.Read(c.at)
		if e != c.e || next != c.next || (e == api.OK) != (len(l) == 1) || e == api.OK && !event.Same(l[0], drop(c.x)) {
			t.Error(c.at, l, next, e)
		}
	}
	for seg := -1; seg < 10; seg++ {
		for at := -2; at < 60; at++ {
			holdRead(t, b, m, all, pos(seg, at))
		}
	}
	hold(t, b, d, m)
}

// What stands within an entry, and looks like one, is none.
func TestReadInside(t *testing.T) {
	b, d, m := twins(t, made(t, 1000))
	inside := recordOf(packed(t, drop("t")))
	x := api.Event{Kind: api.EventInsert, Table: "t", New: []api.Value{{Kind: api.ValueBytes, Bytes: strings.Repeat(inside, 3)}}}
	put(t, b, x)
	m.append(t, x)
	for at := range b.End().At {
		if l, _, e := b.Read(pos(1, at)); (e == api.OK) != (at == 16) {
			t.Error(at, l, e)
		}
	}
	hold(t, b, d, m)
}

// Read tells each kind of events as they were put in, and none of none.
func TestReadTellsAll(t *testing.T) {
	goods := api.Schema{Columns: []api.Column{{Name: "a", Type: api.TypeInt, Size: 8}, {Name: "b", Type: api.TypeBytes, Size: 3, Null: true}}, Key: []int{0}, Uniques: [][]int{{1}, {1, 0}}}
	row := []api.Value{{Kind: api.ValueInt, Int: math.MinInt64}, {Kind: api.ValueBytes, Bytes: "\x00\xff"}}
	other := []api.Value{{Kind: api.ValueUint, Uint: math.MaxUint64}, {}}
	l := []api.Event{
		{Kind: api.EventCreate, Table: "goods", Schema: goods},
		{Kind: api.EventInsert, Table: "goods", New: row},
		{Kind: api.EventUpdate, Table: "goods", Old: row, New: other},
		{Kind: api.EventDelete, Table: "goods", Old: other},
		{Kind: api.EventRename, Names: [][2]string{{"a", "b"}, {"b", "a"}}},
		drop("goods"),
	}
	b := open(t, made(t, 10000))
	at := put(t, b, l...)
	none := put(t, b)
	got, next, e := b.Read(at)
	if ok(t, e); next != none || !slices.EqualFunc(got, l, event.Same) {
		t.Error(got, next)
	}
	if got, next, e := b.Read(none); got != nil || next != b.End() || e != api.OK {
		t.Error(got, next, e)
	}
}

func TestEach(t *testing.T) {
	b, _, m := some(t)
	all := m.all()
	for seg := -1; seg < 10; seg++ {
		for at := -2; at < 60; at++ {
			var want []placed
			if i, e := m.read(all, pos(seg, at)); e == api.OK {
				want = all[i:]
			}
			if got := collect(t, b.Each(pos(seg, at))); !slices.Equal(got, want) {
				t.Error(seg, at, got, "not", want)
			}
		}
	}
	for _, from := range []api.Pos{pos(math.MinInt, 16), pos(math.MaxInt, 16), pos(3, math.MinInt), pos(3, math.MaxInt)} {
		if got := collect(t, b.Each(from)); got != nil {
			t.Error(from, got)
		}
	}
}

func TestEachIsLeft(t *testing.T) {
	b, _, m := some(t)
	all := m.all()
	over := b.Each(pos(3, 16))
	for range 2 {
		for many := 1; many < 4; many++ {
			var got []placed
			for at, l := range over {
				got = append(got, placed{at, packed(t, l...)})
				if len(got) == many {
					break
				}
			}
			if !slices.Equal(got, all[:many]) {
				t.Error(got)
			}
		}
	}
	for range 2 { // and it may be gone over within itself
		var got []string
		for at := range over {
			for other := range over {
				got = append(got, fmt.Sprint(at, other))
			}
		}
		if len(got) != 9 || got[1] != "{3 16} {3 33}" || got[5] != "{3 33} {6 16}" {
			t.Error(got)
		}
	}
}

// Entries are told as they are when it comes to them: those that are put in meanwhile, too, in whatever segment.
func TestEachAsItComes(t *testing.T) {
	b, d, m := twins(t, made(t, 100000))
	over := b.Each(pos(1, 16))
	if collect(t, over) != nil {
		t.Error("entries of an empty binlog")
	}
	put(t, b, drop("a"))
	m.append(t, drop("a"))
	var got []placed
	for at, l := range over {
		got = append(got, placed{at, packed(t, l...)})
		switch len(got) {
		case 1:
			put(t, b, drop("b"))
			m.append(t, drop("b"))
		case 2:
			for range 3 {
				ok(t, b.Rotate())
				m.rotate(t)
			}
			put(t, b, sized(t, 2976)...)
			m.append(t, sized(t, 2976)...)
		case 3:
			put(t, b)
			m.append(t)
		}
	}
	if len(got) != 4 || !slices.Equal(got, m.all()) || !slices.Equal(collect(t, over), got) {
		t.Error(got)
	}
	hold(t, b, d, m)
}

// Where one is told an entry, and purges its segment, the next one is told no more: it stood behind what is gone.
func TestEachPurged(t *testing.T) {
	for _, c := range []struct {
		purge []int // which segment is purged to, while each of them is told; 0 purges none
		many  int
	}{
		{[]int{3}, 3}, {[]int{4}, 1}, {[]int{7}, 1}, {[]int{0, 4}, 2}, {[]int{0, 6}, 2}, {[]int{0, 0, 6}, 3}, {[]int{0, 0, 7}, 3}, {[]int{3, 3, 3}, 3},
	} {
		b, _, m := some(t)
		all := m.all()
		var got []placed
		for at, l := range b.Each(b.First()) {
			if len(got) < len(c.purge) && c.purge[len(got)] > 0 {
				ok(t, b.Purge(c.purge[len(got)]))
			}
			got = append(got, placed{at, packed(t, l...)})
		}
		if !slices.Equal(got, all[:c.many]) {
			t.Error(c, got)
		}
	}
	// The file of the one that was purged may have another segment then, whose entries are not told for its own.
	b := open(t, made(t, 10000))
	put(t, b, drop("a"))
	put(t, b, drop("b"))
	many := 0
	for range b.Each(b.First()) {
		for range 62 {
			ok(t, b.Rotate())
			ok(t, b.Purge(b.End().Seg))
		}
		put(t, b, drop("c"))
		put(t, b, drop("d"))
		many++
	}
	if many != 1 || b.First() != pos(63, 16) || len(collect(t, b.Each(b.First()))) != 2 {
		t.Error(many, b.First())
	}
}

// One who puts in as much as he is told ends where there is no room any more.
func TestEachEnds(t *testing.T) {
	d := made(t, 30000)
	b := open(t, d)
	put(t, b, sized(t, 992)...)
	many := 0
	for _, l := range b.Each(b.First()) {
		b.Append(l...)
		many++
	}
	if many != 29 || len(collect(t, b.Each(b.First()))) != 29 { // three of them, a thousand bytes each, in a segment
		t.Error(many, b.End(), d.Left())
	}
}

// What he who is told the entries panics with is his.
func TestEachLetsPanic(t *testing.T) {
	b, d, m := some(t)
	for _, thrown := range []any{"mine", api.ErrNil, errors.New("mine")} {
		func() {
			defer func() {
				if given := recover(); given != thrown {
					t.Error(given)
				}
			}()
			for range b.Each(b.First()) {
				panic(thrown)
			}
		}()
	}
	hold(t, b, d, m)
}

// P15.3: Purge, First, End, Less.

func TestPurge(t *testing.T) {
	for _, c := range []struct {
		seg   int
		e     api.Errno
		first int
	}{
		{3, api.OK, 3}, {4, api.OK, 4}, {5, api.OK, 5}, {6, api.OK, 6}, {7, api.OK, 7},
		{8, api.ErrRange, 3}, {2, api.ErrRange, 3}, {1, api.ErrRange, 3}, {0, api.ErrRange, 3}, {-1, api.ErrRange, 3}, {65, api.ErrRange, 3}, {3 - 62, api.ErrRange, 3},
		{math.MinInt, api.ErrRange, 3}, {math.MaxInt, api.ErrRange, 3},
	} {
		b, d, m := some(t)
		if e := b.Purge(c.seg); e != c.e || b.First() != pos(c.first, 16) || b.End() != pos(7, 16) {
			t.Error(c, e, b.First(), b.End())
		}
		if e := m.purge(t, c.seg); e != c.e {
			t.Error(c, "the model: ", e)
		}
		hold(t, b, d, m)
		put(t, b, drop("next"))
		m.append(t, drop("next"))
		hold(t, b, d, m)
		hold(t, open(t, d), d, m)
	}
}

// The lowest goes first, each of them as one thing that a crash may undo: behind it the others follow one another.
func TestPurgeInOrder(t *testing.T) {
	for keep := range 6 {
		b, d, _ := some(t)
		ok(t, d.Sync())
		ok(t, b.Purge(7))
		if d.Loose() != 4 {
			t.Error(d.Loose())
		}
		ok(t, d.Crash(keep, 9))
		if b, _, _ := twins(t, d); b.First() != pos(min(3+keep, 7), 16) || b.End() != pos(7, 16) {
			t.Error(keep, b.First(), b.End())
		}
	}
}

func TestLess(t *testing.T) {
	rising := []api.Pos{
		pos(math.MinInt, math.MinInt), pos(math.MinInt, 0), pos(math.MinInt, math.MaxInt), pos(-1, 5), pos(0, math.MinInt), pos(0, -1), {}, pos(0, 1), pos(0, 99),
		pos(1, 16), pos(1, 17), pos(1, 33), pos(2, -16), pos(2, 16), pos(10, 9), pos(math.MaxInt, math.MinInt), pos(math.MaxInt, 0), pos(math.MaxInt, math.MaxInt),
	}
	for i, a := range rising {
		for j, b := range rising {
			if binlog.Less(a, b) != (i < j) {
				t.Error(a, b)
			}
		}
	}
}

// P15.1 to P15.3, of none.
func TestNone(t *testing.T) {
	for _, b := range nones() {
		for _, l := range [][]api.Event{nil, drops("t"), {{}}, slices.Repeat(drops("t"), 101)} {
			if at, e := b.Append(l...); at != (api.Pos{}) || e != api.ErrNil {
				t.Error(at, e)
			}
		}
		if e := b.Rotate(); e != api.ErrNil {
			t.Error(e)
		}
		for _, at := range []api.Pos{{}, pos(1, 16), pos(-1, 3), pos(math.MaxInt, math.MinInt)} {
			if l, next, e := b.Read(at); l != nil || next != (api.Pos{}) || e != api.ErrNil {
				t.Error(l, next, e)
			}
			if over := b.Each(at); over == nil || collect(t, over) != nil {
				t.Error("entries of none")
			}
			if e := b.Purge(at.Seg); e != api.ErrNil {
				t.Error(e)
			}
		}
		if b.First() != (api.Pos{}) || b.End() != (api.Pos{}) {
			t.Error(b.First(), b.End())
		}
	}
}

// By the rule that nothing handed in is changed, or kept.
func TestNothingHandedInIsKept(t *testing.T) {
	row := []api.Value{{Kind: api.ValueBool, Int: 1}, {}, {Kind: api.ValueInt, Int: 9}}
	l := []api.Event{{Kind: api.EventInsert, Table: "t", New: row[:2]}, drop("u"), drop("spare")}
	b, d, m := twins(t, made(t, 1000))
	put(t, b, l[:2]...)
	m.append(t, l[:2]...)
	if row[2] != (api.Value{Kind: api.ValueInt, Int: 9}) || row[0].Int != 1 || !event.Same(l[1], drop("u")) || !event.Same(l[2], drop("spare")) {
		t.Error(row, l)
	}
	row[0], l[1] = api.Value{}, drop("other")
	clear(l)
	hold(t, b, d, m)
}

// By the rule that an answer is new memory.
func TestAnswersAreNew(t *testing.T) {
	x := api.Event{Kind: api.EventUpdate, Table: "t", Old: []api.Value{{Kind: api.ValueBool}}, New: []api.Value{{Kind: api.ValueBool, Int: 1}}}
	b, d, m := twins(t, made(t, 1000))
	for range 3 {
		put(t, b, x, x)
		m.append(t, x, x)
	}
	spoil := func(l []api.Event) {
		for _, x := range l {
			clear(x.Old[:cap(x.Old)])
			clear(x.New[:cap(x.New)])
		}
		clear(l[:cap(l)])
	}
	one, _, e := b.Read(b.First())
	ok(t, e)
	two, _, e := b.Read(b.First())
	ok(t, e)
	clear(one[0].Old)
	clear(one[0].New)
	one[0] = api.Event{}
	if !event.Same(one[1], x) || !event.Same(two[0], x) {
		t.Error(one, two)
	}
	many := 0
	var kept [][]api.Event
	for _, l := range b.Each(b.First()) {
		if packed(t, l...) != packed(t, x, x) {
			t.Error(l)
		}
		for _, other := range b.Each(b.First()) {
			spoil(other)
		}
		if packed(t, l...) != packed(t, x, x) {
			t.Error(l)
		}
		for _, old := range kept {
			spoil(old)
		}
		kept = append(kept, l)
		many++
	}
	if many != 3 {
		t.Error(many)
	}
	hold(t, b, d, m)
}

// What a binlog answers is not promised, once its disk crashed, or was changed otherwise; but each call ends, and none panics.
func TestOldBinlogEnds(t *testing.T) {
	for _, change := range []func(d *disk.Disk){
		func(d *disk.Disk) { d.Crash(0, 0) },
		func(d *disk.Disk) { d.Crash(3, 5) },
		func(d *disk.Disk) { d.Cut(5, 0) },
		func(d *disk.Disk) { d.Cut(5, 20) },
		func(d *disk.Disk) { d.Append(5, []byte("?")) },
		func(d *disk.Disk) { d.Append(5, []byte(strings.Repeat(recordOf("?"), 5))) },
		func(d *disk.Disk) { d.Cut(5, 16); d.Append(5, []byte(strings.Repeat(recordOf("?"), 5))) },
		func(d *disk.Disk) { d.Cut(8, 16); d.Append(8, []byte(strings.Repeat("\xff", 50))) },
		func(d *disk.Disk) { d.Append(10, []byte(recordOf(""))) },
	} {
		for when := range 4 {
			b, d, _ := some(t)
			told := 0
			for range b.Each(b.First()) {
				if told == when {
					change(d)
				}
				told++
			}
			change(d)
			for seg := -1; seg < 12; seg++ {
				for at := -1; at < 60; at++ {
					b.Read(pos(seg, at))
					for range b.Each(pos(seg, at)) {
						told++
					}
				}
			}
			b.Append(drop("t"))
			b.Rotate()
			b.Append(sized(t, 2976)...)
			b.Append()
			b.Purge(b.End().Seg)
			b.First()
		}
	}
}

// P15.4: what follows.

// history are the entries that were put in, in order, as their bytes; purged and synced are how many of them were purged, and there, when the disk was synced last.
type history struct {
	entries                    []string
	purged, purgedThen, synced int
}

// hold holds what is there behind a crash against a history, of which only that is left then. No two entries are alike.
func (h *history) hold(t testing.TB, there []string) {
	t.Helper()
	for from := h.purgedThen; from <= h.purged; from++ {
		upTo := from + len(there)
		if upTo < h.synced || upTo > len(h.entries) || !slices.Equal(h.entries[from:upTo], there) {
			continue
		}
		h.entries, h.purged = slices.Clone(there), 0
		h.sync()
		return
	}
	t.Fatalf("%q, of %q, of which %d to %d were purged, %d synced", there, h.entries, h.purgedThen, h.purged, h.synced)
}

func (h *history) sync() { h.purgedThen, h.synced = h.purged, len(h.entries) }

// Wherever a crash comes, a binlog that is opened anew has the first ones of the entries that were not purged, at least those that were synced.
func TestEachCrash(t *testing.T) {
	long := sized(t, 2967)
	steps := []func(b *binlog.Binlog, h *history){
		func(b *binlog.Binlog, h *history) { h.put(t, b, drop("a")) },
		func(b *binlog.Binlog, h *history) { h.put(t, b, drop("b"), drop("bb")) },
		func(b *binlog.Binlog, h *history) { ok(t, b.Rotate()) },
		func(b *binlog.Binlog, h *history) { h.put(t, b) },
		func(b *binlog.Binlog, h *history) { h.put(t, b, long...) },
		func(b *binlog.Binlog, h *history) { h.put(t, b, drop("c")) },
		func(b *binlog.Binlog, h *history) { h.purge(t, b, 3) },
		func(b *binlog.Binlog, h *history) { h.put(t, b, drop("d")) },
		func(b *binlog.Binlog, h *history) { ok(t, b.Rotate()) },
		func(b *binlog.Binlog, h *history) { h.purge(t, b, 4) },
		func(b *binlog.Binlog, h *history) { h.put(t, b, drop("e")) },
	}
	for synced := range len(steps) + 1 {
		for _, torn := range []int{0, 1, 7, 8, 9, 15, 16, 17, 24, 2974, 2975} {
			for keep := 0; ; keep++ {
				d := made(t, 10000)
				b, h := open(t, d), &history{}
				for i, step := range steps {
					if i == synced {
						ok(t, d.Sync())
						h.sync()
					}
					step(b, h)
				}
				if synced == len(steps) {
					ok(t, d.Sync())
					h.sync()
				}
				loose := d.Loose()
				ok(t, d.Crash(keep, torn))
				b, d, m := twins(t, d)
				h.hold(t, entriesOf(b))
				h.put(t, b, drop("next"))
				m.append(t, drop("next"))
				hold(t, b, d, m)
				ok(t, d.Crash(0, 0)) // and once more, without what was done last
				h.hold(t, entriesOf(open(t, d)))
				if keep > loose {
					break
				}
			}
		}
	}
}

func entriesOf(b *binlog.Binlog) (l []string) {
	for _, x := range b.Each(b.First()) {
		p, _ := event.Pack(x...)
		l = append(l, string(p))
	}
	return l
}

func (h *history) put(t testing.TB, b *binlog.Binlog, l ...api.Event) {
	t.Helper()
	put(t, b, l...)
	h.entries = append(slices.Clip(h.entries), packed(t, l...))
}

func (h *history) purge(t testing.TB, b *binlog.Binlog, seg int) {
	t.Helper()
	was := len(entriesOf(b))
	ok(t, b.Purge(seg))
	h.purged += was - len(entriesOf(b))
}

// life is a binlog, its model, and its history.
type life struct {
	b *binlog.Binlog
	d *disk.Disk
	m *model
	h history
}

// deed does something to a life, as bytes say.
func (x *life) deed(t testing.TB, n int, b [3]byte) {
	t.Helper()
	was := len(x.m.all())
	switch b[0] % 16 {
	case 0, 1, 2, 3, 4, 5:
		x.append(t, drop(fmt.Sprint("t", n))) // no two are alike
	case 6:
		x.append(t, append(sized(t, 10+8*int(b[1])+int(b[2])), drop(fmt.Sprint("t", n)))...)
	case 7:
		x.append(t, append([][]api.Event{{wide()}, {wide(), wide()}, {{}}, slices.Repeat([]api.Event{wide()}, 40)}[b[1]%4], drop(fmt.Sprint("t", n)))...)
	case 8, 9:
		if e, want := x.b.Rotate(), x.m.rotate(t); e != want {
			t.Fatal("Rotate", e, want)
		}
	case 10:
		seg := x.m.segs[0].seg + int(b[1]%8) - 1
		if e, want := x.b.Purge(seg), x.m.purge(t, seg); e != want {
			t.Fatal("Purge", seg, e, want)
		}
		x.h.purged += was - len(x.m.all())
	case 11:
		s := []byte(strings.Repeat("?", int(b[1]%9)))
		if e, want := x.d.Append(int(b[2]%2), s), x.m.d.Append(int(b[2]%2), s); e != want { // others have loose things, too
			t.Fatal(e, want)
		}
	case 12:
		ok(t, x.d.Sync())
		ok(t, x.m.d.Sync())
		x.h.sync()
	case 13, 14:
		ok(t, x.d.Crash(int(b[1]%16), int(b[2])))
		ok(t, x.m.d.Crash(int(b[1]%16), int(b[2])))
		x.reopen(t)
		x.h.hold(t, entriesOf(x.b))
	case 15:
		x.reopen(t)
	}
	hold(t, x.b, x.d, x.m)
}

func (x *life) append(t testing.TB, l ...api.Event) {
	t.Helper()
	at, e := x.b.Append(l...)
	want, wantE := x.m.append(t, l...)
	if at != want || e != wantE {
		t.Fatal("Append", at, e, want, wantE)
	}
	if e == api.OK {
		x.h.entries = append(slices.Clip(x.h.entries), packed(t, l...))
	}
}

func (x *life) reopen(t testing.TB) {
	t.Helper()
	m, e := opened(t, x.m.d)
	ok(t, e)
	x.b, x.m = open(t, x.d), m
}

func newLife(t testing.TB, room int) *life {
	t.Helper()
	b, d, m := twins(t, made(t, room))
	return &life{b: b, d: d, m: m}
}

func TestRandomLives(t *testing.T) {
	r := rand.New(rand.NewSource(15))
	for _, room := range slices.Repeat([]int{16, 60, 300, 2000, 8000, 8000, 30000, 200000}, 4) {
		x := newLife(t, room)
		for n := range 80 {
			x.deed(t, n, [3]byte{byte(r.Intn(256)), byte(r.Intn(256)), byte(r.Intn(256))})
		}
	}
}

func FuzzAnyLife(f *testing.F) {
	f.Add(60, []byte("\x00\x01\x03\x0c\x00\x00\x00\x02\x04\x0d\x02\x02"))
	f.Add(8000, []byte("\x00\x01\x0b\x06\xff\x00\x06\xff\x04\x00\x21\x05\x08\x04\x03\x0c\x01\x03\x0a\x02\x00\x09\x00\x00\x0d\x03\x11"))
	f.Fuzz(func(t *testing.T, room int, b []byte) {
		if room < 16 || room > 30000 || len(b) > 300 {
			return
		}
		x := newLife(t, room)
		for n := 0; len(b) >= 3; b = b[3:] {
			x.deed(t, n, [3]byte(b))
			n++
		}
	})
}

// filesOf are files of a disk as bytes say them: each time which file, and what is put there.
func filesOf(t testing.TB, room int, b []byte) *disk.Disk {
	t.Helper()
	d := made(t, room)
	for ; len(b) >= 2; b = b[2:] {
		file, arg := int(b[0]&63), int(b[1]>>3)
		s := ""
		switch b[1] % 8 {
		case 0, 1, 2:
			s = recordOf(head((file+60)%62 + 62*(arg%3))) // the number of a segment that may be there
		case 3:
			s = recordOf(packed(t, drops("abcdefgh"[:arg%9])...))
		case 4:
			s = recordOf(head(arg - 2))
		case 5:
			s = recordOf(strings.Repeat("\x00", arg))
		case 6:
			s = recordOf(packed(t))[:arg%9]
		case 7:
			s = string(b[1:])[:min(len(b)-1, arg)]
		}
		d.Append(file, []byte(s)) // for what has no room there is none
	}
	return d
}

// holdFiles holds what is opened of files against the words.
func holdFiles(t testing.TB, d *disk.Disk) api.Errno {
	t.Helper()
	was, own := d.Copy(), d.Copy()
	m, want := opened(t, own)
	b, e := binlog.Open(d)
	switch {
	case e != want:
		t.Fatal(e, "not", want, told(was))
	case e != api.OK && (b != nil || !disk.Same(d, was)):
		t.Fatal(e, told(d), "not", told(was))
	case e == api.OK:
		hold(t, b, d, m)
	}
	return e
}

func TestRandomFiles(t *testing.T) {
	r := rand.New(rand.NewSource(15))
	many := map[api.Errno]int{}
	for range 20000 {
		b := make([]byte, 2*r.Intn(8))
		r.Read(b)
		near := byte(r.Intn(64))
		for i := 0; i < len(b); i += 2 {
			b[i] = near + b[i]%4 // files that follow one another, mostly
		}
		many[holdFiles(t, filesOf(t, 40+r.Intn(400), b))]++
	}
	if many[api.OK] < 1000 || many[api.ErrBinlog] < 1000 || many[api.ErrFull] < 10 || len(many) != 3 {
		t.Error(many)
	}
}

func FuzzAnyFiles(f *testing.F) {
	f.Add(100, []byte("\x03\x00\x03\x1b\x04\x00"))
	f.Add(300, []byte("\x3f\x00\x02\x00\x02\x03\x03\x08\x03\x2e\x05\x16"))
	f.Fuzz(func(t *testing.T, room int, b []byte) {
		if room < 1 || room > 10000 || len(b) > 300 {
			return
		}
		holdFiles(t, filesOf(t, room, b))
	})
}

// A binlog is over its disk, whose own methods it has.
func TestDiskIsPromoted(t *testing.T) {
	d := made(t, 100)
	b := open(t, d)
	if b.Loose() != 1 || b.Left() != 84 || b.Sync() != api.OK || d.Loose() != 0 || b.Disk != d {
		t.Error(told(d))
	}
}
