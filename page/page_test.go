package page_test

import (
	"fmt"
	"iter"
	"math/rand"
	"slices"
	"strings"
	"testing"

	"swingbridge/api"
	"swingbridge/page"
)

// pair is a key and its value.
type pair struct{ key, val string }

// model is pages as the words say them.
type model [][]pair

// of is the number of the page of a key: the last one whose first key is not above it, or the first one.
func (m model) of(key string) int {
	for n := len(m) - 1; n > 0; n-- {
		if m[n][0].key <= key {
			return n
		}
	}
	return 0
}

// at is where a key is, if it is there.
func (m model) at(key string) (n, i int, is bool) {
	for n, l := range m {
		for i, x := range l {
			if x.key == key {
				return n, i, true
			}
		}
	}
	return 0, 0, false
}

func (m model) get(key string) (string, bool) {
	if n, i, is := m.at(key); is {
		return m[n][i].val, true
	}
	return "", false
}

// apart is a model of its own.
func (m model) apart() model {
	var c model
	for _, l := range m {
		c = append(c, slices.Clone(l))
	}
	return c
}

func (m model) put(key, val string) model {
	if n, i, is := m.at(key); is {
		m[n][i].val = val
		return m
	}
	if len(m) == 0 {
		return model{{{key, val}}}
	}
	n := m.of(key)
	m[n] = append(m[n], pair{key, val})
	slices.SortFunc(m[n], func(a, b pair) int { return strings.Compare(a.key, b.key) })
	if len(m[n]) < 9 {
		return m
	}
	var c model
	c = append(c, m[:n]...)
	c = append(c, slices.Clone(m[n][:4]), slices.Clone(m[n][4:]))
	return append(c, m[n+1:]...)
}

func (m model) take(key string) model {
	n, i, is := m.at(key)
	if !is {
		return m
	}
	m[n] = slices.Delete(m[n], i, i+1)
	if len(m[n]) == 0 {
		return slices.Delete(m, n, n+1)
	}
	if len(m[n]) >= 3 || len(m) == 1 {
		return m
	}
	if n == len(m)-1 {
		n--
	}
	both := slices.Concat(m[n], m[n+1])
	var c model
	c = append(c, m[:n]...)
	if len(both) <= 8 {
		c = append(c, both)
	} else {
		c = append(c, slices.Clone(both[:len(both)/2]), slices.Clone(both[len(both)/2:]))
	}
	return append(c, m[n+2:]...)
}

func (m model) keys() [][]string {
	var l [][]string
	for _, pg := range m {
		var keys []string
		for _, x := range pg {
			keys = append(keys, x.key)
		}
		l = append(l, keys)
	}
	return l
}

// from are the entries from a key on.
func (m model) from(key string) (l []pair) {
	for _, x := range slices.Concat(m...) {
		if x.key >= key {
			l = append(l, x)
		}
	}
	return l
}

func collect(over iter.Seq2[string, string]) (l []pair) {
	for key, val := range over {
		l = append(l, pair{key, val})
	}
	return l
}

// hold holds pages against a model, and against what is promised of how many pages there are.
func hold(t testing.TB, p *page.Pages, m model) {
	t.Helper()
	got, want := p.Keys(), m.keys()
	if !slices.EqualFunc(got, want, slices.Equal) {
		t.Fatalf("%q, not %q", got, want)
	}
	all := slices.Concat(m...)
	if p.Len() != len(all) {
		t.Fatalf("%d entries, not %d", p.Len(), len(all))
	}
	if l := collect(p.From("")); !slices.Equal(l, all) {
		t.Fatalf("%q, not %q", l, all)
	}
	for _, x := range all {
		if val, is := p.Get(x.key); val != x.val || !is {
			t.Fatalf("%q: %q, %v, not %q", x.key, val, is, x.val)
		}
	}
	shape(t, got, len(all))
}

// shape asks what P11.4 promises: at most a third as many pages as entries, but for one, each but an only one of 3 to 8.
func shape(t testing.TB, pages [][]string, entries int) {
	t.Helper()
	if len(pages) > entries/3 && (len(pages) > 1 || entries == 0) {
		t.Fatalf("%d pages of %d entries", len(pages), entries)
	}
	for _, l := range pages {
		least := 3
		if len(pages) == 1 {
			least = 1
		}
		if len(l) < least || len(l) > 8 {
			t.Fatalf("a page of %d among %d", len(l), len(pages))
		}
	}
}

// put puts an entry into both, and holds the answer.
func put(t testing.TB, p *page.Pages, m model, key, val string) model {
	t.Helper()
	want, is := m.get(key)
	if old, was, e := p.Put(key, val); old != want || was != is || e != api.OK {
		t.Fatalf("put of %q: %q, %v, %v, not %q, %v", key, old, was, e, want, is)
	}
	return m.put(key, val)
}

// take takes an entry out of both, and holds the answer.
func take(t testing.TB, p *page.Pages, m model, key string) model {
	t.Helper()
	want, is := m.get(key)
	if old, was, e := p.Take(key); old != want || was != is || e != api.OK {
		t.Fatalf("take of %q: %q, %v, %v, not %q, %v", key, old, was, e, want, is)
	}
	return m.take(key)
}

// of makes pages by putting these keys, each with its own bytes twice as its value.
func of(t testing.TB, keys string) *page.Pages {
	t.Helper()
	p := page.New()
	for _, key := range strings.Fields(keys) {
		if old, was, e := p.Put(key, key+key); old != "" || was || e != api.OK {
			t.Fatal(key, old, was, e)
		}
	}
	return p
}

// told is what can be told of pages, as a text.
func told(p *page.Pages) string {
	return fmt.Sprintf("%d: %q, %q", p.Len(), p.Keys(), collect(p.From("")))
}

// laid are the keys, page by page.
func laid(p *page.Pages) string {
	var l []string
	for _, keys := range p.Keys() {
		l = append(l, strings.Join(keys, " "))
	}
	return strings.Join(l, "; ")
}

// nones are pages that are not there.
func nones() []*page.Pages { return []*page.Pages{nil, {}} }

func takeAll(t testing.TB, p *page.Pages, keys string) {
	t.Helper()
	for _, key := range strings.Fields(keys) {
		if _, was, e := p.Take(key); !was || e != api.OK {
			t.Fatal(key, was, e)
		}
	}
}

// P11.1: New, Put, Take, Get, Len.

func TestExamples(t *testing.T) {
	p := of(t, "a b c d e f g h i")
	if laid(p) != "a b c d; e f g h i" {
		t.Error(laid(p))
	}
	takeAll(t, p, "d c")
	if laid(p) != "a b e f g h i" {
		t.Error(laid(p))
	}
	takeAll(t, p, "a b e f")
	if laid(p) != "g h i" || p.Len() != 3 {
		t.Error(told(p))
	}
}

func TestNew(t *testing.T) {
	p := page.New()
	if p == nil || p.Keys() != nil || p.Len() != 0 || collect(p.From("")) != nil {
		t.Fatal(told(p))
	}
	if val, is := p.Get(""); val != "" || is {
		t.Error(val, is)
	}
	if old, was, e := p.Take(""); old != "" || was || e != api.OK {
		t.Error(old, was, e)
	}
	other := page.New()
	p.Put("a", "b")
	if other.Len() != 0 || p.Len() != 1 {
		t.Error(told(other))
	}
}

// A key that is there has another value, wherever it is; it is no second entry.
func TestPutAgain(t *testing.T) {
	for _, keys := range []string{"a", "a b", "a b c d e f g h", "a b c d e f g h i", "a b c d e f g h i j k l m n o p q r s t"} {
		p := of(t, keys)
		was := laid(p)
		for n, key := range strings.Fields(keys) {
			old := key + key
			for _, val := range []string{"", "new", "new", key + key, "\xff\x00"} {
				if got, is, e := p.Put(key, val); got != old || !is || e != api.OK {
					t.Error(key, got, is, e)
				}
				if got, is := p.Get(key); got != val || !is || laid(p) != was || p.Len() != len(strings.Fields(keys)) {
					t.Error(n, key, got, is, laid(p))
				}
				old = val
			}
		}
	}
}

// Keys are any bytes, in the order of these.
func TestAnyKeys(t *testing.T) {
	p := page.New()
	keys := []string{"", "\x00", "\x00\x00", "\x01", "a", "a\x00", "aa", "ab", "b", "\x7f", "\x80", "\xc3\xa9", "\xff", "\xff\x00", "\xff\xff", strings.Repeat("\xff", api.MaxKey-1), strings.Repeat("\xff", api.MaxKey)}
	var m model
	for _, n := range rand.New(rand.NewSource(1)).Perm(len(keys)) {
		if val, is := p.Get(keys[n]); val != "" || is {
			t.Errorf("%.20q: %q, %v", keys[n], val, is)
		}
		m = put(t, p, m, keys[n], keys[n]+"!")
		hold(t, p, m)
	}
	if got := slices.Concat(p.Keys()...); !slices.Equal(got, keys) {
		t.Errorf("%.20q", got)
	}
	for n, key := range keys {
		if l := collect(p.From(key)); len(l) != len(keys)-n || l[0].key != key || l[0].val != key+"!" {
			t.Errorf("from %.20q: %.20q", key, l)
		}
	}
	for _, key := range keys {
		m = take(t, p, m, key)
		hold(t, p, m)
	}
}

// A key of MaxKey bytes goes; of a longer one only Put is told.
func TestLongKeys(t *testing.T) {
	p := of(t, "a b x")
	was := told(p)
	for _, many := range []int{2001, 2002, 1 << 20} {
		for _, key := range []string{strings.Repeat("a", many), "a" + strings.Repeat("\x00", many-1), strings.Repeat("\xff", many)} {
			if old, is, e := p.Put(key, "val"); old != "" || is || e != api.ErrLong || told(p) != was {
				t.Error(many, old, is, e, told(p))
			}
			if val, is := p.Get(key); val != "" || is {
				t.Error(many, val, is)
			}
			if old, is, e := p.Take(key); old != "" || is || e != api.OK || told(p) != was {
				t.Error(many, old, is, e)
			}
		}
	}
	if l := collect(p.From("a" + strings.Repeat("\x00", 4000))); !slices.Equal(l, []pair{{"b", "bb"}, {"x", "xx"}}) {
		t.Error(l)
	}
	key := strings.Repeat("b", 2000)
	if old, is, e := p.Put(key, strings.Repeat("v", 1<<20)); old != "" || is || e != api.OK { // of values there is no bound
		t.Error(old, is, e)
	}
	if val, is := p.Get(key); len(val) != 1<<20 || !is || p.Len() != 4 {
		t.Error(len(val), is)
	}
	if _, is, e := p.Put(strings.Repeat("b", 2001), ""); is || e != api.ErrLong || p.Len() != 4 {
		t.Error(is, e)
	}
	if val, is, e := p.Take(key); len(val) != 1<<20 || !is || e != api.OK || told(p) != was {
		t.Error(len(val), is, e)
	}
}

// A key is laid into the last page whose first key is not above it, or into the first one; one of nine is split behind four.
func TestWherePutLays(t *testing.T) {
	const two = "b d f h j l n p r"
	for _, c := range []struct{ put, keys string }{
		{"a", "a b d f h; j l n p r"},
		{"c", "b c d f h; j l n p r"},
		{"i", "b d f h i; j l n p r"}, // it is ahead of the second page's first key
		{"j\x00", "b d f h; j j\x00 l n p r"},
		{"s", "b d f h; j l n p r s"},
		{"s t u v", "b d f h; j l n p; r s t u v"},
		{"a c e g i", "a b c d; e f g h i; j l n p r"},
		{"i i1 i2 i3 i4", "b d f h; i i1 i2 i3 i4; j l n p r"},
		{"s t u v w x y z", "b d f h; j l n p; r s t u; v w x y z"},
	} {
		p := of(t, two)
		for _, key := range strings.Fields(c.put) {
			if _, was, e := p.Put(key, key); was || e != api.OK {
				t.Error(key, was, e)
			}
		}
		if laid(p) != c.keys {
			t.Errorf("%q: %s, not %s", c.put, laid(p), c.keys)
		}
	}
}

// A page of two is joined with the one behind it, or, the last one, with the one ahead; of more than eight entries two pages are made.
func TestTake(t *testing.T) {
	for _, c := range []struct{ put, take, keys string }{
		{"a", "a", ""},
		{"a b", "a", "b"},
		{"a b c d e f g h", "a b c d e f", "g h"}, // an only page may have fewer
		{"a b c d e f g h i", "a", "b c d; e f g h i"},
		{"a b c d e f g h i", "a b", "c d e f g h i"},
		{"a b c d e f g h i", "e f", "a b c d; g h i"},
		{"a b c d e f g h i", "e f g", "a b c d h i"},
		{"a b c d e f g h i j", "a b", "c d e f g h i j"},                      // eight go on one page
		{"a b c d e f g h i j k", "a b", "c d e f; g h i j k"},                 // nine: four, five
		{"a b c d e f g h i j k l", "a b", "c d e f g; h i j k l"},             // ten: five, five
		{"a b c d e f g h i a1 a2 a3 a4", "e f g", "a a1 a2 a3 a4; b c d h i"}, // the same, of the one ahead
		{"a b c d e f g h i j k l m", "e f", "a b c d; g h i j k l m"},         // of three pages the middle one takes the one behind it
		{"a b c d e f g h i j k l m", "i j k", "a b c d; e f g h l m"},
		{"a b c d e f g h i j k l m", "a b", "c d e f g h; i j k l m"},
		{"a b c d e f g h i j k l m n o p", "a b", "c d e f g h; i j k l m n o p"},
		{"a b c d e f g h i j k l m n o p", "e f", "a b c d; g h i j k; l m n o p"},
	} {
		p := of(t, c.put)
		for _, key := range strings.Fields(c.take) {
			if val, was, e := p.Take(key); val != key+key || !was || e != api.OK {
				t.Error(key, val, was, e)
			}
			now := told(p)
			if val, was, e := p.Take(key); val != "" || was || e != api.OK || told(p) != now { // of what is not there nothing is told or done
				t.Error(key, val, was, e)
			}
			if val, is := p.Get(key); val != "" || is {
				t.Error(key, val, is)
			}
		}
		if laid(p) != c.keys || p.Len() != len(strings.Fields(c.put))-len(strings.Fields(c.take)) {
			t.Errorf("%q without %q: %s, not %s", c.put, c.take, laid(p), c.keys)
		}
	}
}

// Pages that became empty are as new ones.
func TestEmptyAgain(t *testing.T) {
	p := page.New()
	for range 3 {
		p.Put("a", "1")
		p.Put("b", "2")
		takeAll(t, p, "b a")
		if p.Keys() != nil || p.Len() != 0 || collect(p.From("")) != nil || !page.Same(p, page.New()) || page.Same(p, nil) {
			t.Error(told(p))
		}
		if c := p.Copy(); c == nil || !page.Same(c, p) {
			t.Error(c)
		}
	}
}

// P11.2: Keys, From.

func TestKeysAreNew(t *testing.T) {
	p := of(t, "a b c d e f g h i j k l m")
	was := told(p)
	l := p.Keys()
	for n := range l {
		_ = append(l[n], "spoilt", "spoilt")
	}
	if other := p.Keys(); !slices.EqualFunc(l, other, slices.Equal) {
		t.Errorf("%q, not %q", l, other)
	}
	other := p.Keys()
	for n := range l {
		full := l[n][:cap(l[n])]
		for i := range full {
			full[i] = "spoilt"
		}
	}
	if told(p) != was || !slices.EqualFunc(other, p.Keys(), slices.Equal) {
		t.Error(told(p))
	}
	l = p.Keys()
	p.Put("a1", "")
	takeAll(t, p, "b c d e")
	if !slices.EqualFunc(l, other, slices.Equal) { // what was told stays
		t.Errorf("%q, not %q", l, other)
	}
}

func TestFrom(t *testing.T) {
	for many := range 30 {
		p, m := page.New(), model(nil)
		for n := range many {
			m = put(t, p, m, fmt.Sprintf("%02d", n), fmt.Sprint(n))
		}
		for n := -1; n <= many; n++ {
			for _, key := range []string{"", fmt.Sprintf("%02d", max(n, 0)), fmt.Sprintf("%02d\x00", max(n, 0)), fmt.Sprintf("%02d/", max(n, 0)), "/", ":"} {
				if got, want := collect(p.From(key)), m.from(key); !slices.Equal(got, want) {
					t.Fatalf("%d from %q: %q, not %q", many, key, got, want)
				}
			}
		}
	}
}

func TestFromIsLeft(t *testing.T) {
	p := of(t, "a b c d e f g h i j k l m")
	over := p.From("c")
	for range 2 {
		for many := 1; many <= 11; many++ {
			var got []string
			for key := range over {
				got = append(got, key)
				if len(got) == many {
					break
				}
			}
			if want := strings.Fields("c d e f g h i j k l m")[:many]; !slices.Equal(got, want) {
				t.Error(got)
			}
		}
	}
	over = p.From("l")
	var got []string
	for key := range over { // and it may be gone over within itself
		for other := range over {
			got = append(got, key+other)
		}
	}
	if !slices.Equal(got, []string{"ll", "lm", "ml", "mm"}) {
		t.Error(got)
	}
}

// The entries are told as they are when From is called, whatever comes and goes behind that, or while they are gone over.
func TestFromAsItWas(t *testing.T) {
	for _, c := range []func(p *page.Pages){
		func(p *page.Pages) { p.Put("m", "other") },
		func(p *page.Pages) { p.Put("n", "new") },
		func(p *page.Pages) { p.Put("a0", "new") },
		func(p *page.Pages) { p.Take("a") },
		func(p *page.Pages) { p.Take("m") },
		func(p *page.Pages) { takeAll(t, p, "a b c d e f g h i j k l m") },
		func(p *page.Pages) { takeAll(t, p, "m l k j i h g f e d c b a") },
		func(p *page.Pages) {
			for n := range 100 {
				for _, key := range strings.Fields("a b c d e f g h i j k l m") {
					p.Put(key, "other")
					p.Put(fmt.Sprint(key, n), "new")
				}
			}
		},
	} {
		for _, key := range []string{"", "a", "d", "dd", "e", "m", "z"} {
			for at := -1; at < 13; at++ {
				p := of(t, "a b c d e f g h i j k l m")
				over := p.From(key)
				want := collect(over)
				if at < 0 {
					c(p)
				}
				var got []pair
				for key, val := range over {
					if len(got) == at {
						c(p)
					}
					got = append(got, pair{key, val})
				}
				if !slices.Equal(got, want) || !slices.Equal(collect(over), want) {
					t.Errorf("from %q, at %d: %q, not %q", key, at, got, want)
				}
			}
		}
	}
	over := page.New().From("")
	p := page.New()
	empty := p.From("")
	p.Put("a", "b")
	if collect(over) != nil || collect(empty) != nil || len(collect(p.From(""))) != 1 {
		t.Error(collect(over), collect(empty))
	}
}

// What he who is told the entries panics with is his.
func TestFromLetsPanic(t *testing.T) {
	p := of(t, "a b c")
	for _, thrown := range []any{"mine", api.ErrNil} {
		func() {
			defer func() {
				if given := recover(); given != thrown {
					t.Error(given)
				}
			}()
			for range p.From("b") {
				panic(thrown)
			}
		}()
	}
	if laid(p) != "a b c" {
		t.Error(laid(p))
	}
}

// P11.3: Copy, Same.

func TestCopy(t *testing.T) {
	for many := range 40 {
		p, m := page.New(), model(nil)
		for n := range many {
			m = put(t, p, m, fmt.Sprintf("%02d", n), fmt.Sprint(n))
		}
		c := p.Copy()
		if c == nil || c == p || !page.Same(c, p) || !page.Same(p, c) {
			t.Fatal(many)
		}
		hold(t, c, m)
		of, oc := m.apart(), m.apart()
		for n := range 2 * many { // each goes on in its own way
			of = put(t, p, of, fmt.Sprintf("%02d", n/2), "of p")
			of = put(t, p, of, fmt.Sprintf("%02d.%d", n/2, n), "of p")
			hold(t, c, oc)
			if n%3 > 0 {
				oc = take(t, c, oc, fmt.Sprintf("%02d", (many-n+many)%many))
			} else {
				oc = put(t, c, oc, fmt.Sprintf("%02d:%d", n/2, n), "of c")
			}
			hold(t, p, of)
		}
		hold(t, c, oc)
	}
}

func TestSame(t *testing.T) {
	made := func(puts, takes string) *page.Pages {
		p := of(t, puts)
		takeAll(t, p, takes)
		return p
	}
	valued := func(puts, key, val string) *page.Pages {
		p := of(t, puts)
		p.Put(key, val)
		return p
	}
	const many = "a b c d e f g h i"
	for n, c := range []struct {
		a, b *page.Pages
		same bool
	}{
		{page.New(), page.New(), true},
		{page.New(), nil, false},
		{page.New(), &page.Pages{}, false},
		{nil, nil, true},
		{nil, &page.Pages{}, true},
		{&page.Pages{}, &page.Pages{}, true},
		{of(t, "a"), nil, false},
		{of(t, "a"), &page.Pages{}, false},
		{of(t, "a"), page.New(), false},
		{of(t, "a"), of(t, "a"), true},
		{of(t, "a"), of(t, "b"), false},
		{of(t, "a"), of(t, "a b"), false},
		{of(t, "a b c"), of(t, "c b a"), true},
		{of(t, "a"), valued("a", "a", ""), false},
		{of(t, "a"), valued("a", "a", "aa"), true},
		{of(t, many), of(t, many), true},
		{of(t, many), of(t, many+" j"), false},
		{of(t, many), valued(many, "i", "ij"), false},
		{of(t, many), valued(many, "a", "b"), false},
		{of(t, many), made(many+" j k l", "j k l"), true},
		{made(many, "i"), of(t, "a b c d e f g h"), false}, // the same entries, on other pages
		{made(many, "c d"), of(t, "a b e f g h i"), true},
		{of(t, "i h g f e d c b a"), of(t, many), true},
		{of(t, many+" j"), of(t, "j i h g f e d c b a"), false}, // four and six, five and five
	} {
		if page.Same(c.a, c.b) != c.same || page.Same(c.b, c.a) != c.same {
			t.Errorf("%d: %s; %s", n, laid(c.a), laid(c.b))
		}
		if !page.Same(c.a, c.a) {
			t.Errorf("%d: %s", n, laid(c.a))
		}
	}
}

// All of it, of none.
func TestNone(t *testing.T) {
	for n, p := range nones() {
		for _, key := range []string{"", "a", strings.Repeat("a", 2001)} {
			if old, was, e := p.Put(key, "b"); old != "" || was || e != api.ErrNil { // ahead of ErrLong
				t.Error(n, old, was, e)
			}
			if old, was, e := p.Take(key); old != "" || was || e != api.ErrNil {
				t.Error(n, old, was, e)
			}
			if val, is := p.Get(key); val != "" || is {
				t.Error(n, val, is)
			}
			if over := p.From(key); over == nil || collect(over) != nil {
				t.Error(n, collect(over))
			}
		}
		if p.Len() != 0 || p.Keys() != nil || p.Copy() != nil {
			t.Error(n, p.Len(), p.Keys(), p.Copy())
		}
	}
}

// P11.4: what follows.

// state is pages, as they were made by something, and how they should be.
type state struct {
	p *page.Pages
	m model
}

// sizes are how many entries the pages have, as a text.
func (s state) sizes() string {
	text := ""
	for _, l := range s.m {
		text += fmt.Sprint(len(l))
	}
	return text
}

// between is a key between two: as many bytes as numbers of that many steps ask for.
func between(a, b string) string {
	if b == "" {
		return a + "\x80"
	}
	for n := 0; ; n++ {
		low, high := 0, 256
		if n < len(a) {
			low = int(a[n])
		}
		if n < len(b) && strings.HasPrefix(b, a[:min(n, len(a))]) {
			high = int(b[n])
		}
		if high-low > 1 {
			for len(a) < n {
				a += "\x00"
			}
			return a[:n] + string([]byte{byte((low + high) / 2)})
		}
	}
}

// next are all pages that become of a state by one key that comes, wherever it may, or that goes.
func (s state) next(t testing.TB) []state {
	t.Helper()
	var l []state
	last := ""
	for n, x := range append(slices.Concat(s.m...), pair{}) {
		key := between(last, x.key)
		if key <= last || x.key != "" && key >= x.key {
			t.Fatalf("%q is not between %q and %q", key, last, x.key)
		}
		c := state{s.p.Copy(), s.m.apart()}
		c.m = put(t, c.p, c.m, key, fmt.Sprint(n))
		l = append(l, c)
		if last = x.key; last == "" {
			break
		}
		c = state{s.p.Copy(), s.m.apart()}
		c.m = take(t, c.p, c.m, x.key)
		l = append(l, c)
	}
	return l
}

// However pages are laid, as far as some entries go, each key that comes or goes lays them as the words say, and what they were copied from stays as it was.
func TestEachShape(t *testing.T) {
	const most = 20
	seen, few := map[string]bool{}, 0
	work := []state{{page.New(), nil}}
	for len(work) > 0 {
		s := work[0]
		work = work[1:]
		if seen[s.sizes()] {
			continue
		}
		if seen[s.sizes()] = true; s.p.Len() <= most {
			few++
		}
		was := told(s.p)
		for _, c := range s.next(t) {
			hold(t, c.p, c.m)
			if !seen[c.sizes()] && c.p.Len() <= most+1 { // six pages of 20 entries come of 21 alone
				work = append(work, c)
			}
		}
		if told(s.p) != was {
			t.Fatalf("%s is not as it was: %s", was, told(s.p))
		}
	}
	if few != shapes(most) {
		t.Errorf("%d shapes, not %d", few, shapes(most))
	}
}

// shapes is how many ways there are to lay at most so many entries on pages of three to eight, or on one page alone.
func shapes(most int) int {
	ways := make([]int, most+1)
	ways[0] = 1
	all := 3 // none, one, two
	for many := 3; many <= most; many++ {
		for last := 3; last <= min(8, many); last++ {
			ways[many] += ways[many-last]
		}
		all += ways[many]
	}
	return all
}

// live holds pages against a model, while bytes say what comes, and what goes.
func live(t testing.TB, b []byte) {
	t.Helper()
	p, m := page.New(), model(nil)
	var held state
	for len(b) > 2 {
		key := fmt.Sprintf("%02x", b[1])[:1+b[0]/8%2]
		switch what := b[0] % 8; what {
		case 0, 1, 2, 3:
			m = put(t, p, m, key, fmt.Sprint(b[2]))
		case 7:
			held = state{p.Copy(), m.apart()}
		default:
			m = take(t, p, m, key)
		}
		val, is := p.Get(key)
		if want, there := m.get(key); val != want || is != there {
			t.Fatalf("%q: %q, %v, not %q, %v", key, val, is, want, there)
		}
		if got, want := collect(p.From(key)), m.from(key); !slices.Equal(got, want) {
			t.Fatalf("from %q: %q, not %q", key, got, want)
		}
		if hold(t, p, m); held.p != nil {
			hold(t, held.p, held.m)
		}
		b = b[3:]
	}
}

func TestAnyLife(t *testing.T) {
	r := rand.New(rand.NewSource(11))
	for range 60 {
		b := make([]byte, 1500)
		r.Read(b)
		live(t, b)
	}
}

func FuzzAnyLife(f *testing.F) {
	f.Add([]byte("some bytes that say what comes and what goes"))
	f.Fuzz(func(t *testing.T, b []byte) { live(t, b) })
}

// However many come and go, in whatever order, pages have as many entries as is promised; this would not end, if each of them cost a look at all.
func TestMany(t *testing.T) {
	const many = 1 << 16
	orders := map[string]func(n int) int{
		"rising":  func(n int) int { return n },
		"falling": func(n int) int { return many - 1 - n },
		"mixed":   func(n int) int { return n * 40503 % many },
	}
	for put, up := range orders {
		for take, down := range orders {
			p := page.New()
			for n := range many {
				p.Put(fmt.Sprintf("%05d", up(n)), "")
			}
			shape(t, p.Keys(), many)
			for n := range many {
				if _, was, e := p.Take(fmt.Sprintf("%05d", down(n))); !was || e != api.OK {
					t.Fatal(put, take, n, was, e)
				}
				if n%(many/8) == 1 {
					shape(t, p.Keys(), many-n-1)
				}
			}
			if p.Len() != 0 || p.Keys() != nil {
				t.Error(put, take, p.Len())
			}
		}
	}
}
