package page

import (
	"sort"

	"swingbridge/api"
)

type entry struct{ key, val string }

// page is entries in the order of their keys. It is never written over, but another one is made: a copy of the list, or what From goes over, may have it, too.
type page []entry

// into tells a page with the entry, which is instead of the one that had its key.
func (e entry) into(pg page) page {
	at, many := pg.find(e.key)
	return pg.with(at, many, e)
}

// outOf tells a page without the entry of that key.
func (e entry) outOf(pg page) page {
	at, many := pg.find(e.key)
	return pg.with(at, many)
}

// first tells the place of the first one of which something is so; of all behind that it must be so, too.
func first[T any](l []T, is func(T) bool) int {
	return sort.Search(len(l), func(at int) bool { return is(l[at]) })
}

// find tells where the entry of a key is, or would be, and how many have that key: one or none.
func (pg page) find(key string) (at, many int) {
	at = first(pg, func(e entry) bool { return e.key >= key })
	if at < len(pg) && pg[at].key == key {
		many = 1
	}
	return at, many
}

func (pg page) get(key string) (string, bool) {
	at, many := pg.find(key)
	if many == 0 {
		return "", false
	}
	return pg[at].val, true
}

// cut tells a page's first entries. It leaves no spare room, so that what is put behind them is laid elsewhere, and not over the page's others.
func (pg page) cut(many int) page { return pg[:many:many] }

// with tells a page in which these entries are instead of so many, from a place on.
func (pg page) with(at, many int, by ...entry) page {
	return append(append(pg.cut(at), by...), pg[at+many:]...)
}

// parts tells the pages on which a page's entries go: none, it, or, if they are too many, two.
func (pg page) parts() []page {
	half := len(pg) / 2
	switch {
	case len(pg) == 0:
		return nil
	case len(pg) <= api.Fan:
		return []page{pg}
	}
	return []page{pg.cut(half), pg[half:]}
}

func (pg page) keys() []string {
	var l []string
	for _, e := range pg {
		l = append(l, e.key)
	}
	return l
}
