package disk_test

import (
	"bytes"
	"fmt"
	"maps"
	"math"
	"math/rand"
	"slices"
	"strings"
	"testing"

	"swingbridge/api"
	"swingbridge/disk"
)

// model is a disk as the words say it: what was synced, and what was done since, done again each time that it is looked at.
type model struct {
	room   int
	synced [api.MaxFiles]string
	loose  []act
}

// act is a thing that was done: a cut, or what was put.
type act struct {
	file, many int
	cut        bool
	put        string
}

func does(files [api.MaxFiles]string, acts ...act) [api.MaxFiles]string {
	for _, a := range acts {
		if a.cut {
			files[a.file] = files[a.file][:a.many]
		} else {
			files[a.file] += a.put
		}
	}
	return files
}

func (m *model) files() [api.MaxFiles]string { return does(m.synced, m.loose...) }

func (m *model) left() int {
	many := m.room
	for _, s := range m.files() {
		many -= len(s)
	}
	return many
}

func (m *model) append(file int, s string) api.Errno {
	if file < 0 || file > 63 {
		return api.ErrRange
	}
	if len(s) > m.left() {
		return api.ErrFull
	}
	m.loose = append(slices.Clip(m.loose), act{file: file, put: s})
	return api.OK
}

func (m *model) cutTo(file, many int) api.Errno {
	if many < 0 {
		return api.ErrArg
	}
	if file < 0 || file > 63 || many > len(m.files()[file]) {
		return api.ErrRange
	}
	m.loose = append(slices.Clip(m.loose), act{file: file, cut: true, many: many})
	return api.OK
}

func (m *model) sync() { m.synced, m.loose = m.files(), nil }

func (m *model) crash(keep, torn int) api.Errno {
	if keep < 0 || torn < 0 {
		return api.ErrArg
	}
	kept := m.loose
	if keep < len(m.loose) {
		kept = slices.Clone(m.loose[:keep])
		if next := m.loose[keep]; !next.cut {
			next.put = next.put[:min(torn, len(next.put))]
			kept = append(kept, next)
		}
	}
	m.synced, m.loose = does(m.synced, kept...), nil
	return api.OK
}

func (m *model) sizes() map[int]int {
	sizes := map[int]int{}
	for file, s := range m.files() {
		if s != "" {
			sizes[file] = len(s)
		}
	}
	return sizes
}

// hold holds a disk against a model.
func hold(t *testing.T, d *disk.Disk, m *model) {
	t.Helper()
	if d.Loose() != len(m.loose) || d.Left() != m.left() {
		t.Fatalf("loose %d, not %d; left %d, not %d", d.Loose(), len(m.loose), d.Left(), m.left())
	}
	for file, s := range m.files() {
		if b, e := d.Read(file); e != api.OK || string(b) != s {
			t.Fatalf("file %d: %q, %v, not %q", file, b, e, s)
		}
	}
	if sizes := maps.Collect(d.Files()); !maps.Equal(sizes, m.sizes()) {
		t.Fatalf("files %v, not %v", sizes, m.sizes())
	}
}

// made makes a disk of that room, and fails if that is refused.
func made(t testing.TB, room int) *disk.Disk {
	t.Helper()
	d, e := disk.New(room)
	if e != api.OK || d == nil {
		t.Fatal(d, e)
	}
	return d
}

func ok(t testing.TB, e api.Errno) {
	t.Helper()
	if e != api.OK {
		t.Fatal(e)
	}
}

func put(t testing.TB, d *disk.Disk, file int, s string) {
	t.Helper()
	ok(t, d.Append(file, []byte(s)))
}

// told is what can be told of a disk, as a text.
func told(d *disk.Disk) string {
	var s strings.Builder
	fmt.Fprint(&s, "loose ", d.Loose(), ", left ", d.Left())
	for file, many := range d.Files() {
		b, e := d.Read(file)
		fmt.Fprintf(&s, "; %d: %d %q %v", file, many, b, e)
	}
	return s.String()
}

func read(t testing.TB, d *disk.Disk, file int) string {
	t.Helper()
	b, e := d.Read(file)
	ok(t, e)
	return string(b)
}

// sample is a disk of 20 bytes: synced is "abc" in 0 and "xy" in 5; loose are "de" in 0, a cut of 5 to 1, nothing in 7, "fgh" in 5.
func sample(t testing.TB) *disk.Disk {
	t.Helper()
	d := made(t, 20)
	put(t, d, 0, "abc")
	put(t, d, 5, "xy")
	ok(t, d.Sync())
	put(t, d, 0, "de")
	ok(t, d.Cut(5, 1))
	put(t, d, 7, "")
	put(t, d, 5, "fgh")
	return d
}

const sampleTold = `loose 4, left 11; 0: 5 "abcde" error 0; 5: 4 "xfgh" error 0`

// none are disks that are not there.
func none() []*disk.Disk { return []*disk.Disk{nil, {}} }

// P9.1: New, Append, Cut, Sync.

func TestNew(t *testing.T) {
	for _, c := range []struct {
		room int
		e    api.Errno
	}{
		{math.MinInt, api.ErrArg}, {-1, api.ErrArg}, {0, api.ErrArg}, {1, api.OK}, {10, api.OK},
		{1<<24 - 1, api.OK}, {1 << 24, api.OK}, {1<<24 + 1, api.ErrArg}, {math.MaxInt, api.ErrArg},
	} {
		d, e := disk.New(c.room)
		if e != c.e || (d == nil) != (e != api.OK) {
			t.Fatal(c.room, d, e)
		}
		if e == api.OK {
			hold(t, d, &model{room: c.room})
		}
	}
}

// Two disks have nothing in common.
func TestNewMakesAnother(t *testing.T) {
	a, b := made(t, 9), made(t, 9)
	put(t, a, 3, "abc")
	ok(t, a.Sync())
	if told(b) != "loose 0, left 9" {
		t.Error(told(b))
	}
}

func TestAppend(t *testing.T) {
	d := made(t, 6)
	for _, c := range []struct {
		file int
		s    string
		e    api.Errno
		told string
	}{
		{0, "ab", api.OK, `loose 1, left 4; 0: 2 "ab" error 0`},
		{63, "\x00\xff", api.OK, `loose 2, left 2; 0: 2 "ab" error 0; 63: 2 "\x00\xff" error 0`},
		{64, "c", api.ErrRange, ""},
		{-1, "c", api.ErrRange, ""},
		{math.MinInt, "", api.ErrRange, ""},
		{math.MaxInt, "too many bytes", api.ErrRange, ""},
		{1, "cde", api.ErrFull, ""},
		{0, "too many bytes", api.ErrFull, ""},
		{7, "", api.OK, `loose 3, left 2; 0: 2 "ab" error 0; 63: 2 "\x00\xff" error 0`},
		{0, "cd", api.OK, `loose 4, left 0; 0: 4 "abcd" error 0; 63: 2 "\x00\xff" error 0`},
		{0, "e", api.ErrFull, ""},
		{64, "", api.ErrRange, ""},
		{5, "", api.OK, `loose 5, left 0; 0: 4 "abcd" error 0; 63: 2 "\x00\xff" error 0`},
	} {
		want := c.told
		if want == "" {
			want = told(d)
		}
		if e := d.Append(c.file, []byte(c.s)); e != c.e || told(d) != want {
			t.Errorf("%d, %q: %v; %s", c.file, c.s, e, told(d))
		}
	}
	if e := d.Append(2, nil); e != api.OK || d.Loose() != 6 {
		t.Error(e)
	}
}

// All the room there may be can be had, in one file, and byte by byte of it no more.
func TestAppendAllRoom(t *testing.T) {
	d := made(t, api.MaxRoom)
	b := bytes.Repeat([]byte("0123456789abcdef"), api.MaxRoom/16)
	if e := d.Append(9, append(b, 'x')); e != api.ErrFull || d.Loose() != 0 {
		t.Fatal(e)
	}
	ok(t, d.Append(9, b))
	if e := d.Append(8, []byte("x")); e != api.ErrFull || d.Left() != 0 {
		t.Fatal(e, d.Left())
	}
	ok(t, d.Sync())
	ok(t, d.Crash(0, 0))
	if got, e := d.Read(9); e != api.OK || !bytes.Equal(got, b) {
		t.Error(len(got), e)
	}
}

// What is cut leaves room at once; but a crash that undoes the cut undoes what was put behind it, too.
func TestCutLeavesRoom(t *testing.T) {
	d := made(t, 4)
	put(t, d, 0, "abcd")
	ok(t, d.Sync())
	ok(t, d.Cut(0, 1))
	if d.Left() != 3 {
		t.Error(d.Left())
	}
	put(t, d, 1, "xyz")
	if e := d.Append(0, []byte("b")); e != api.ErrFull {
		t.Error(e)
	}
	ok(t, d.Crash(0, 9))
	if told(d) != `loose 0, left 0; 0: 4 "abcd" error 0` {
		t.Error(told(d))
	}
}

func TestCut(t *testing.T) {
	d := made(t, 9)
	put(t, d, 0, "abcdef")
	put(t, d, 63, "xy")
	ok(t, d.Sync())
	for _, c := range []struct {
		file, many int
		e          api.Errno
		told       string
	}{
		{0, 6, api.OK, `loose 1, left 1; 0: 6 "abcdef" error 0; 63: 2 "xy" error 0`},
		{0, 7, api.ErrRange, ""},
		{0, math.MaxInt, api.ErrRange, ""},
		{0, -1, api.ErrArg, ""},
		{0, math.MinInt, api.ErrArg, ""},
		{64, 0, api.ErrRange, ""},
		{-1, 0, api.ErrRange, ""},
		{math.MaxInt, 0, api.ErrRange, ""},
		{64, -1, api.ErrArg, ""},
		{-1, -1, api.ErrArg, ""},
		{math.MinInt, math.MaxInt, api.ErrRange, ""},
		{0, 2, api.OK, `loose 2, left 5; 0: 2 "ab" error 0; 63: 2 "xy" error 0`},
		{0, 3, api.ErrRange, ""},
		{63, 0, api.OK, `loose 3, left 7; 0: 2 "ab" error 0`},
		{63, 0, api.OK, `loose 4, left 7; 0: 2 "ab" error 0`},
		{63, 1, api.ErrRange, ""},
		{30, 0, api.OK, `loose 5, left 7; 0: 2 "ab" error 0`},
		{30, 1, api.ErrRange, ""},
	} {
		want := c.told
		if want == "" {
			want = told(d)
		}
		if e := d.Cut(c.file, c.many); e != c.e || told(d) != want {
			t.Errorf("%d, %d: %v; %s", c.file, c.many, e, told(d))
		}
	}
	put(t, d, 0, "C")
	put(t, d, 63, "Z")
	if read(t, d, 0) != "abC" || read(t, d, 63) != "Z" {
		t.Error(told(d))
	}
}

func TestSync(t *testing.T) {
	d := sample(t)
	ok(t, d.Sync())
	want := strings.Replace(sampleTold, "loose 4", "loose 0", 1)
	if told(d) != want {
		t.Error(told(d))
	}
	ok(t, d.Sync()) // nothing was loose
	ok(t, d.Crash(0, 0))
	if told(d) != want {
		t.Error(told(d))
	}
}

// P9.2: Crash.

func TestExamples(t *testing.T) {
	d := made(t, 10)
	put(t, d, 0, "abc")
	ok(t, d.Sync())
	put(t, d, 0, "def")
	put(t, d, 1, "gh")
	if d.Loose() != 2 || d.Left() != 2 || d.Append(2, []byte("xyz")) != api.ErrFull {
		t.Error(told(d))
	}
	ok(t, d.Crash(1, 1))
	if read(t, d, 0) != "abcdef" || read(t, d, 1) != "g" {
		t.Error(told(d))
	}
	ok(t, d.Cut(0, 2))
	ok(t, d.Crash(0, 9))
	if read(t, d, 0) != "abcdef" || d.Cut(0, 7) != api.ErrRange {
		t.Error(told(d))
	}
}

func TestCrash(t *testing.T) {
	const (
		synced = `loose 0, left 15; 0: 3 "abc" error 0; 5: 2 "xy" error 0`
		torn   = `loose 0, left 14; 0: 4 "abcd" error 0; 5: 2 "xy" error 0`
		first  = `loose 0, left 13; 0: 5 "abcde" error 0; 5: 2 "xy" error 0`
		cut    = `loose 0, left 14; 0: 5 "abcde" error 0; 5: 1 "x" error 0`
		last1  = `loose 0, left 13; 0: 5 "abcde" error 0; 5: 2 "xf" error 0`
		last2  = `loose 0, left 12; 0: 5 "abcde" error 0; 5: 3 "xfg" error 0`
		whole  = `loose 0, left 11; 0: 5 "abcde" error 0; 5: 4 "xfgh" error 0`
	)
	for _, c := range []struct {
		keep, torn int
		e          api.Errno
		told       string
	}{
		{0, 0, api.OK, synced}, {0, 1, api.OK, torn}, {0, 2, api.OK, first}, {0, 3, api.OK, first}, {0, math.MaxInt, api.OK, first},
		{1, 0, api.OK, first}, {1, 1, api.OK, first}, {1, math.MaxInt, api.OK, first}, // the next one is a cut
		{2, 0, api.OK, cut}, {2, 1, api.OK, cut}, {2, math.MaxInt, api.OK, cut}, // the next one puts nothing
		{3, 0, api.OK, cut}, {3, 1, api.OK, last1}, {3, 2, api.OK, last2}, {3, 3, api.OK, whole}, {3, 4, api.OK, whole},
		{4, 0, api.OK, whole}, {4, 9, api.OK, whole}, {5, 0, api.OK, whole}, {math.MaxInt, math.MaxInt, api.OK, whole},
		{-1, 0, api.ErrArg, sampleTold}, {0, -1, api.ErrArg, sampleTold}, {-1, -1, api.ErrArg, sampleTold},
		{math.MinInt, 2, api.ErrArg, sampleTold}, {2, math.MinInt, api.ErrArg, sampleTold}, {9, -1, api.ErrArg, sampleTold},
	} {
		d := sample(t)
		if e := d.Crash(c.keep, c.torn); e != c.e || told(d) != c.told {
			t.Errorf("%d, %d: %v; %s", c.keep, c.torn, e, told(d))
		}
		if c.e != api.OK {
			continue
		}
		ok(t, d.Crash(0, 0)) // what a crash left is there behind the next one
		if told(d) != c.told {
			t.Errorf("%d, %d, and then: %s", c.keep, c.torn, told(d))
		}
	}
}

// A crash of nothing loose changes nothing.
func TestCrashOfNothing(t *testing.T) {
	d := made(t, 5)
	ok(t, d.Crash(0, 0))
	put(t, d, 1, "ab")
	ok(t, d.Sync())
	for _, keep := range []int{0, 1, math.MaxInt} {
		ok(t, d.Crash(keep, keep))
		if told(d) != `loose 0, left 3; 1: 2 "ab" error 0` {
			t.Error(keep, told(d))
		}
	}
}

// P9.3: Read, Loose, Left, Files, Copy, Same.

func TestRead(t *testing.T) {
	d := sample(t)
	for _, c := range []struct {
		file int
		s    string
		e    api.Errno
	}{
		{0, "abcde", api.OK}, {5, "xfgh", api.OK}, {7, "", api.OK}, {63, "", api.OK},
		{64, "", api.ErrRange}, {-1, "", api.ErrRange}, {math.MinInt, "", api.ErrRange}, {math.MaxInt, "", api.ErrRange},
	} {
		if b, e := d.Read(c.file); string(b) != c.s || e != c.e || e != api.OK && b != nil {
			t.Error(c.file, b, e)
		}
	}
}

// sizes are files' numbers, and how many bytes they have, as they are told.
func sizes(d *disk.Disk) [][2]int {
	var l [][2]int
	for file, many := range d.Files() {
		l = append(l, [2]int{file, many})
	}
	return l
}

func TestFiles(t *testing.T) {
	d := made(t, 3000)
	for _, file := range rand.New(rand.NewSource(1)).Perm(64) {
		put(t, d, file, strings.Repeat("x", file)) // the file 0 stays empty
	}
	got := sizes(d)
	for i := range 63 {
		if len(got) != 63 || got[i] != [2]int{i + 1, i + 1} {
			t.Fatal(got)
		}
	}
	for file := range 63 {
		ok(t, d.Cut(file, 0))
	}
	if got := sizes(d); !slices.Equal(got, [][2]int{{63, 63}}) {
		t.Error(got)
	}
	if got := sizes(made(t, 1)); got != nil {
		t.Error(got)
	}
}

func TestFilesIsLeft(t *testing.T) {
	d := made(t, 9)
	for _, file := range []int{8, 2, 5} {
		put(t, d, file, "xy")
	}
	over := d.Files()
	for range 2 {
		var got []int
		for file := range over {
			got = append(got, file)
			if len(got) == 2 {
				break
			}
		}
		if !slices.Equal(got, []int{2, 5}) {
			t.Error(got)
		}
	}
	for range 2 { // and it may be gone over within itself
		var got []int
		for file := range over {
			for other := range over {
				got = append(got, file*10+other)
			}
		}
		if !slices.Equal(got, []int{22, 25, 28, 52, 55, 58, 82, 85, 88}) {
			t.Error(got)
		}
	}
}

// Files are as they are when it is asked for, whatever is done then, be it in the midst.
func TestFilesStay(t *testing.T) {
	for _, do := range []func(d *disk.Disk) api.Errno{
		func(d *disk.Disk) api.Errno { return d.Append(0, []byte("1")) },
		func(d *disk.Disk) api.Errno { return d.Append(3, []byte("1")) },
		func(d *disk.Disk) api.Errno { return d.Append(9, []byte("1")) },
		func(d *disk.Disk) api.Errno { return d.Cut(5, 0) },
		func(d *disk.Disk) api.Errno { return d.Cut(0, 1) },
		func(d *disk.Disk) api.Errno { return d.Crash(0, 0) },
		func(d *disk.Disk) api.Errno { return d.Sync() },
	} {
		d := sample(t)
		over := d.Files()
		ok(t, do(d))
		for range 2 {
			var got [][2]int
			for file, many := range over {
				got = append(got, [2]int{file, many})
				ok(t, do(d))
			}
			if !slices.Equal(got, [][2]int{{0, 5}, {5, 4}}) {
				t.Error(got)
			}
		}
	}
}

// What he who is told the files panics with is his.
func TestFilesLetsPanic(t *testing.T) {
	d := sample(t)
	for _, thrown := range []any{"mine", api.ErrNil} {
		func() {
			defer func() {
				if given := recover(); given != thrown {
					t.Error(given)
				}
			}()
			for range d.Files() {
				panic(thrown)
			}
		}()
	}
	if told(d) != sampleTold {
		t.Error(told(d))
	}
}

func TestCopy(t *testing.T) {
	d := sample(t)
	c := d.Copy()
	if !disk.Same(c, d) || told(c) != sampleTold {
		t.Fatal(told(c))
	}
	for keep := range 6 {
		for torn := range 4 {
			c, d := sample(t).Copy(), sample(t)
			ok(t, c.Crash(keep, torn))
			ok(t, d.Crash(keep, torn))
			if told(c) != told(d) || !disk.Same(c, d) {
				t.Error(keep, torn, told(c))
			}
		}
	}
	if e := c.Append(1, []byte("123456789012")); e != api.ErrFull { // the room, too
		t.Error(e)
	}
}

// Whatever is done to the one of a disk and its copy, the other one is as it was, behind a crash, too.
func TestCopyGoesOnApart(t *testing.T) {
	steps := []func(d *disk.Disk) api.Errno{
		func(d *disk.Disk) api.Errno { return d.Append(0, []byte("QQ")) },
		func(d *disk.Disk) api.Errno { return d.Append(0, []byte("PP")) },
		func(d *disk.Disk) api.Errno { return d.Append(5, []byte("RR")) },
		func(d *disk.Disk) api.Errno { return d.Append(9, []byte("SS")) },
		func(d *disk.Disk) api.Errno { return d.Cut(5, 3) },
		func(d *disk.Disk) api.Errno { return d.Cut(0, 0) },
		func(d *disk.Disk) api.Errno { return d.Sync() },
		func(d *disk.Disk) api.Errno { return d.Crash(3, 1) },
		func(d *disk.Disk) api.Errno { return d.Crash(0, 0) },
	}
	start := func(more int) *disk.Disk {
		d := sample(t)
		for range more {
			put(t, d, 6, "?")
		}
		return d
	}
	for i, one := range steps {
		for j, two := range steps {
			d := start(i % 3)
			c := d.Copy()
			a, b := start(i%3), start(i%3) // these do the same, and never had anything in common
			pairs := [][2]*disk.Disk{{d, a}, {c, b}, {c, b}, {d, a}}
			for n, do := range []func(*disk.Disk) api.Errno{one, two, one, two} {
				if e, want := do(pairs[n][0]), do(pairs[n][1]); e != want {
					t.Errorf("%d, %d: %v, not %v", i, j, e, want)
				}
			}
			for range 2 {
				if told(d) != told(a) || told(c) != told(b) || !disk.Same(d, a) || !disk.Same(c, b) {
					t.Errorf("%d, %d: %s, not %s; %s, not %s", i, j, told(d), told(a), told(c), told(b))
				}
				for n, x := range []*disk.Disk{a, b, d, c} {
					ok(t, x.Crash(0, 0))
					put(t, x, 5, []string{"1", "2"}[n%2])
				}
			}
		}
	}
}

func TestSame(t *testing.T) {
	type step = func(d *disk.Disk) api.Errno
	puts := func(file int, s string) step {
		return func(d *disk.Disk) api.Errno { return d.Append(file, []byte(s)) }
	}
	cuts := func(file, many int) step { return func(d *disk.Disk) api.Errno { return d.Cut(file, many) } }
	sync := func(d *disk.Disk) api.Errno { return d.Sync() }
	crash := func(d *disk.Disk) api.Errno { return d.Crash(9, 0) }
	build := func(room int, steps ...step) *disk.Disk {
		d := made(t, room)
		for _, s := range steps {
			ok(t, s(d))
		}
		return d
	}
	for i, c := range []struct {
		a, b *disk.Disk
		same bool
	}{
		{build(9), build(9), true},
		{build(9), build(8), false},
		{build(9, puts(1, "ab")), build(9, puts(1, "ab")), true},
		{build(9, puts(1, "ab")), build(9, puts(1, "ac")), false},
		{build(9, puts(1, "ab")), build(9, puts(2, "ab")), false},
		{build(9, puts(1, "ab")), build(9, puts(1, "a"), puts(1, "b")), false},              // the same is seen
		{build(9, puts(1, "ab"), sync), build(9, puts(1, "a"), puts(1, "b"), sync), true},   // and lasts now
		{build(9, puts(1, "ab"), crash), build(9, puts(1, "a"), puts(1, "b"), crash), true}, // or lasted
		{build(9, puts(1, "ab")), build(9, puts(1, "ab"), sync), false},
		{build(9, puts(1, "ab"), puts(2, "")), build(9, puts(1, "ab")), false},
		{build(9, puts(1, "a"), puts(2, "b")), build(9, puts(2, "b"), puts(1, "a")), false},
		{build(9, puts(1, "a"), puts(2, "b"), sync), build(9, puts(2, "b"), puts(1, "a"), sync), true},
		{build(9, puts(1, "")), build(9, cuts(1, 0)), false}, // the one puts nothing, the other one cuts nothing
		{build(9, puts(1, "")), build(9, puts(2, "")), false},
		{build(9, cuts(1, 0)), build(9, cuts(2, 0)), false},
		{build(9, cuts(1, 0)), build(9, cuts(1, 0)), true},
		{build(9, puts(1, "ab"), sync, cuts(1, 1)), build(9, puts(1, "ab"), sync, cuts(1, 0)), false},
		{build(9, puts(1, "ab"), sync, cuts(1, 1), cuts(1, 0)), build(9, puts(1, "ab"), sync, cuts(1, 0), cuts(1, 0)), false},
		{build(9, puts(1, "ab"), sync, cuts(1, 0)), build(9, puts(1, "ac"), sync, cuts(1, 0)), false}, // the same is seen, and loose
		{build(9, puts(1, ""), sync), build(9), true},
		{build(9, puts(1, "ab"), cuts(1, 0), sync), build(9), true},
		{build(9, puts(1, "ab"), sync, cuts(1, 0)), build(9), false},
		{nil, nil, true}, {nil, &disk.Disk{}, true}, {&disk.Disk{}, &disk.Disk{}, true},
		{nil, build(9), false}, {&disk.Disk{}, build(9), false}, {&disk.Disk{}, build(1), false},
	} {
		if disk.Same(c.a, c.b) != c.same || disk.Same(c.b, c.a) != c.same {
			t.Error(i, told(c.a), told(c.b))
		}
		if !disk.Same(c.a, c.a) || !disk.Same(c.a, c.a.Copy()) || !disk.Same(c.b, c.b.Copy()) {
			t.Error(i, "a disk is not like its copy")
		}
	}
}

// P9.1 to P9.3, of none.
func TestNone(t *testing.T) {
	for _, d := range none() {
		for _, file := range []int{0, -1, 64} {
			for _, many := range []int{0, -1, 7} {
				if e := d.Append(file, []byte("ab")); e != api.ErrNil {
					t.Error(e)
				}
				if e := d.Cut(file, many); e != api.ErrNil {
					t.Error(e)
				}
				if e := d.Crash(file, many); e != api.ErrNil {
					t.Error(e)
				}
			}
			if b, e := d.Read(file); b != nil || e != api.ErrNil {
				t.Error(b, e)
			}
		}
		if e := d.Sync(); e != api.ErrNil {
			t.Error(e)
		}
		if d.Loose() != 0 || d.Left() != 0 || d.Copy() != nil || d.Files() == nil || sizes(d) != nil {
			t.Error(told(d))
		}
	}
}

// By the rule that nothing handed in is changed, or kept.
func TestNothingHandedInIsKept(t *testing.T) {
	d := made(t, 99)
	whole := []byte("abcdefgh")
	b := whole[:3:8]
	for range 3 {
		ok(t, d.Append(0, b))
		put(t, d, 0, "Z")
	}
	if string(whole) != "abcdefgh" {
		t.Error(whole)
	}
	copy(whole, "????????")
	if read(t, d, 0) != "abcZabcZabcZ" {
		t.Error(told(d))
	}
	ok(t, d.Crash(1, 2)) // nor is what a crash does again
	if read(t, d, 0) != "abcZ" {
		t.Error(told(d))
	}
}

// By the rule that an answer is new memory.
func TestAnswersAreNew(t *testing.T) {
	d := sample(t)
	one, e := d.Read(0)
	ok(t, e)
	two, e := d.Read(0)
	ok(t, e)
	copy(one, "?????")
	_ = append(one, "and more than there is"...)
	if string(two) != "abcde" || told(d) != sampleTold {
		t.Error(two, told(d))
	}
	put(t, d, 0, "x")
	ok(t, d.Cut(0, 1))
	put(t, d, 0, "!!!!!")
	if string(two) != "abcde" {
		t.Error(two)
	}
	ok(t, d.Crash(0, 0))
	if read(t, d, 0) != "abc" {
		t.Error(told(d))
	}
}

// What was synced stays, however often something is cut, put and lost behind it.
func TestSyncedStays(t *testing.T) {
	d := made(t, 50)
	put(t, d, 0, "abc")
	put(t, d, 0, "def")
	ok(t, d.Sync())
	for _, many := range []int{6, 5, 3, 1, 0} {
		for range 3 {
			ok(t, d.Cut(0, many))
			put(t, d, 0, "????????")
			if read(t, d, 0) != "abcdef"[:many]+"????????" {
				t.Error(told(d))
			}
			ok(t, d.Crash(0, 0))
			put(t, d, 0, "!!!!!!!!")
			if read(t, d, 0) != "abcdef!!!!!!!!" {
				t.Error(told(d))
			}
			ok(t, d.Crash(0, 3))
			if read(t, d, 0) != "abcdef!!!" {
				t.Error(told(d))
			}
			ok(t, d.Cut(0, 6))
			ok(t, d.Sync())
		}
	}
}

// P9.4: what follows, of a crash.

// deed does something to both, a disk and its model, as bytes say.
func deed(t *testing.T, d *disk.Disk, m *model, b [3]byte) {
	t.Helper()
	file, many := int(b[1]%7)+59, int(b[2]%12)-1 // some files are not there
	switch b[0] % 8 {
	case 0, 1, 2:
		s := strings.Repeat(string(rune('a'+b[2]%26)), max(many, 0))
		if e, want := d.Append(file, []byte(s)), m.append(file, s); e != want {
			t.Fatal("append", file, s, e, want)
		}
	case 3, 4:
		if e, want := d.Cut(file, many), m.cutTo(file, many); e != want {
			t.Fatal("cut", file, many, e, want)
		}
	case 5:
		ok(t, d.Sync())
		m.sync()
	case 6:
		if e, want := d.Crash(int(b[1]%12)-1, many), m.crash(int(b[1]%12)-1, many); e != want {
			t.Fatal("crash", e, want)
		}
	case 7: // a copy that goes another way
		c, n := d.Copy(), *m
		for i := range b[1] % 5 {
			deed(t, c, &n, [3]byte{i + b[2], b[2] + 3*i, 7 * i})
		}
		hold(t, c, &n)
		if disk.Same(c, d) != alike(&n, m) {
			t.Fatal("same?", told(c), told(d))
		}
	}
	hold(t, d, m)
}

func alike(m, n *model) bool {
	return m.room == n.room && m.synced == n.synced && slices.Equal(m.loose, n.loose)
}

func TestRandomDeeds(t *testing.T) {
	r := rand.New(rand.NewSource(9))
	for range 300 {
		room := 1 + r.Intn(60)
		d, m := made(t, room), &model{room: room}
		for range 60 {
			deed(t, d, m, [3]byte{byte(r.Intn(256)), byte(r.Intn(256)), byte(r.Intn(256))})
		}
	}
}

// lives goes over disks behind random things that were done, not synced since, each with what all its files were at each time: first when it was synced last, in the end as they are.
func lives(t *testing.T, many int) func(func(*disk.Disk, [][64]string) bool) {
	return func(yield func(*disk.Disk, [][64]string) bool) {
		r := rand.New(rand.NewSource(10))
		for range many {
			d, m := made(t, 40), &model{room: 40}
			for range 10 {
				deed(t, d, m, [3]byte{byte(r.Intn(5)), byte(r.Intn(256)), byte(r.Intn(256))})
			}
			ok(t, d.Sync())
			m.sync()
			was := [][64]string{m.files()}
			for range 12 {
				deed(t, d, m, [3]byte{byte(r.Intn(5)), byte(r.Intn(256)), byte(r.Intn(256))})
				if len(m.loose) == len(was) {
					was = append(was, m.files())
				}
			}
			if !yield(d, was) {
				return
			}
		}
	}
}

// all reads all files.
func all(t *testing.T, d *disk.Disk) (files [64]string) {
	t.Helper()
	for file := range files {
		files[file] = read(t, d, file)
	}
	return files
}

func TestCrashThatKeepsAll(t *testing.T) {
	for d, was := range lives(t, 100) {
		ok(t, d.Crash(d.Loose(), 0))
		if all(t, d) != was[len(was)-1] || d.Loose() != 0 {
			t.Fatal(told(d))
		}
	}
}

func TestCrashThatKeepsNothing(t *testing.T) {
	for d, was := range lives(t, 100) {
		ok(t, d.Crash(0, 0))
		if all(t, d) != was[0] || d.Loose() != 0 {
			t.Fatal(told(d))
		}
	}
}

// Behind a crash all files have what they had at one time, but for one that has a first part more of what was put next.
func TestCrashKeepsFirstParts(t *testing.T) {
	for d, was := range lives(t, 100) {
		for keep := range len(was) {
			for torn := range 13 {
				c := d.Copy()
				ok(t, c.Crash(keep, torn))
				files, next := all(t, c), was[min(keep+1, len(was)-1)]
				for file, s := range files {
					old := was[keep][file]
					more, is := strings.CutPrefix(s, old)
					if s != old && (!is || !strings.HasPrefix(next[file], s) || len(more) != min(torn, len(next[file])-len(old))) {
						t.Fatalf("%d, %d: %d was %q, then %q, is %q", keep, torn, file, old, next[file], s)
					}
					if s == old && torn > 0 && len(next[file]) > len(old) {
						t.Fatalf("%d, %d: %d was %q, then %q, and nothing is kept of it", keep, torn, file, old, next[file])
					}
				}
				ok(t, c.Crash(keep, torn))
				if all(t, c) != files {
					t.Fatal("another crash of nothing loose changed files")
				}
			}
		}
	}
}

func FuzzAnyDeeds(f *testing.F) {
	f.Add(10, []byte("\x00\x01\x03\x05\x00\x00\x00\x02\x04\x06\x02\x02"))
	f.Add(30, []byte("\x00\x01\x0b\x05\x00\x00\x03\x01\x04\x00\x01\x05\x07\x04\x03\x06\x01\x03"))
	f.Add(1<<24, []byte("\x01\x04\x09\x07\x03\x01\x03\x05\x00\x04\x04\x02\x06\x05\x00"))
	f.Fuzz(func(t *testing.T, room int, b []byte) {
		d, e := disk.New(room)
		if (e == api.OK) != (room >= 1 && room <= 1<<24) {
			t.Fatal(room, e)
		}
		if e != api.OK {
			return
		}
		m := &model{room: room}
		for ; len(b) >= 3; b = b[3:] {
			deed(t, d, m, [3]byte(b))
		}
	})
}
