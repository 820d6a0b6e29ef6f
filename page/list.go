package page

import (
	"slices"

	"swingbridge/api"
)

// list is pages in the order of their keys, none of which is empty.
type list []page

// of tells where the page of a key is; 0, where there is no page.
func (l list) of(key string) int {
	behind := first(l, func(pg page) bool { return pg[0].key > key })
	return max(behind-1, 0)
}

// page tells the page at a place; an empty one, where none is there.
func (l list) page(at int) page {
	if at < len(l) {
		return l[at]
	}
	return nil
}

func (l list) get(key string) (string, bool) { return l.page(l.of(key)).get(key) }

// do does something to the page of a key, and tells the value that the key had ahead of that.
func (l *list) do(key string, what func(page) page) (old string, was bool) {
	at := l.of(key)
	pg := l.page(at)
	old, was = pg.get(key)
	l.set(at, what(pg))
	return old, was
}

// set lets a page be at a place, in two, if it is too great; one that is too small is joined with its neighbour, if it has one.
func (l *list) set(at int, pg page) {
	l.lay(at, min(at+1, len(*l)), pg)
	if len(pg) < api.Least && len(*l) > 1 {
		n := l.neighbours(at)
		l.lay(n[0], n[1]+1, slices.Concat((*l)[n[0]], (*l)[n[1]]))
	}
}

// lay lets a page's parts be instead of the pages from one place on, ahead of another one.
func (l *list) lay(from, to int, pg page) { *l = slices.Replace(*l, from, to, pg.parts()...) }

// neighbours tells where a page is, and its neighbour: the one behind it, or, of the last one, the one ahead.
func (l list) neighbours(at int) [2]int {
	if at == len(l)-1 {
		return [2]int{at - 1, at}
	}
	return [2]int{at, at + 1}
}

// apart copies a list, whose places are written over. Its pages are not, so both may have the same ones.
func (l list) apart() list { return slices.Clone(l) }

// from tells a list of its own, of the entries from a key on; its first page is empty, where all of the key's page are ahead of it.
func (l list) from(key string) list {
	now := l[l.of(key):].apart()
	if len(now) > 0 {
		at, _ := now[0].find(key)
		now[0] = now[0][at:]
	}
	return now
}

// all tells how many entries all pages have.
func (l list) all() int {
	many := 0
	for _, pg := range l {
		many += len(pg)
	}
	return many
}

func (l list) keys() [][]string {
	var keys [][]string
	for _, pg := range l {
		keys = append(keys, pg.keys())
	}
	return keys
}

// entries goes over all of them, in order.
func (l list) entries(yield func(key, val string) bool) {
	for _, pg := range l {
		for _, e := range pg {
			if !yield(e.key, e.val) {
				return
			}
		}
	}
}
