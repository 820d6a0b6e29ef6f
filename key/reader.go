package key

import (
	"swingbridge/api"
	"swingbridge/octet"
)

// none says why bytes are no key: who reads them gives up by a panic with it.
type none string

// text is what pieces are cut of.
type text string

// piece cuts so many bytes from a place on, or, where there are fewer, these.
func (t text) piece(at, most int) text { return t[at : at+min(most, len(t)-at)] }

// reader takes bytes from the left; at is how many are taken. One that gave up is read no further.
type reader struct {
	text
	at    int
	kinds map[api.ValueKind]kind
}

func newReader(s string) *reader { return &reader{text: text(s), kinds: kinds()} }

func (r *reader) take(many int) text {
	t := r.piece(r.at, many)
	if len(t) < many {
		panic(none("they end ahead of their end"))
	}
	r.at += many
	return t
}

// number takes a number of layer 2. It looks at no more than the longest one has: to copy all that follows, for each number, would be too much.
func (r *reader) number() uint64 {
	n, many, e := octet.ReadNumber([]byte(r.piece(r.at, uintBytes)))
	if e != api.OK {
		panic(none("no number"))
	}
	r.at += many
	return n
}

// begun goes over where values' keys begin, each with its Kind's number; who goes over them takes what stands behind it.
func (r *reader) begun(yield func(int, api.ValueKind) bool) {
	for r.at < len(r.text) {
		if at := r.at; !yield(at, fixed[api.ValueKind](r, kindBytes)) {
			return
		}
	}
}

// value takes what stands behind a Kind's number.
func (r *reader) value(k api.ValueKind) api.Value {
	way, is := r.kinds[k]
	if !is {
		panic(none("no Kind's number"))
	}
	return way.read(r)
}

// fixed takes a number of so many bytes.
func fixed[N ~int | int64](r *reader, many int) N {
	n, _ := octet.ReadFixed([]byte(r.take(many)))
	return N(n)
}

// attempt reads a thing, and tells ErrKey where it gave up. What others panic with is theirs, and goes on.
func attempt[T any](read func() T) (t T, e api.Errno) {
	defer func() {
		given := recover()
		_, is := given.(none)
		switch {
		case is:
			e = api.ErrKey
		case given != nil:
			panic(given)
		}
	}()
	return read(), api.OK
}
