package codec

import (
	"swingbridge/api"
	"swingbridge/octet"
)

const (
	byteBits   = 8  // bits of a byte
	numberBits = 64 // bits of a value's number
)

// none says why bytes are none: who reads them gives up by a panic with it.
type none string

// octets are bytes of which pieces are cut.
type octets []byte

// piece cuts so many bytes from a place on, and gives up where there are not so many. It leaves no spare room, so that nothing can be laid over the bytes behind.
func (o octets) piece(at, many int) []byte {
	if many > len(o)-at {
		panic(none("they end ahead of their end"))
	}
	end := at + many
	return o[at:end:end]
}

// reader takes bytes from the left; at is how many are taken. One that gave up is read no further.
type reader struct {
	octets
	at int
}

// rest cuts all that stands behind what is taken.
func (r *reader) rest() []byte { return r.piece(r.at, len(r.octets)-r.at) }

func (r *reader) take(many int) []byte {
	b := r.piece(r.at, many)
	r.at += many
	return b
}

// bit takes a byte that is 0 or 1.
func (r *reader) bit() byte {
	b := r.take(1)[0]
	if b > 1 {
		panic(none("a byte that is neither 0 nor 1"))
	}
	return b
}

// text takes a text of at most so many bytes.
func (r *reader) text(most int) string {
	s, many, e := octet.ReadText(r.rest())
	if e != api.OK || len(s) > most {
		panic(none("no text, or one that is too long"))
	}
	r.at += many
	return s
}

// end asks for nothing behind what is taken.
func (r *reader) end() {
	if r.at < len(r.octets) {
		panic(none("there are more of them"))
	}
}

// number takes a number of layer 2. It asks for the bound before the number becomes another type's, which may hold less.
func number[N ~int](r *reader, most N) N {
	n, many, e := octet.ReadNumber(r.rest())
	if e != api.OK || n > uint64(most) {
		panic(none("no number, or one that is too great"))
	}
	r.at += many
	return N(n)
}

// fixed takes a number of so many bytes. Up and down again, what is above it becomes as its highest bit, if it has a sign, and else 0.
func fixed[N int64 | uint64](r *reader, size int) N {
	n, _ := octet.ReadFixed(r.take(size)) // a column's Size is one that it takes
	gap := numberBits - byteBits*size
	return N(n) << gap >> gap
}

// several takes how many things there are, and then these.
func several[T any](r *reader, most int, read func(*reader) T) []T {
	var l []T
	for range number(r, most) {
		l = append(l, read(r))
	}
	return l
}

// attempt reads a thing, and tells ErrCode where it gave up. What others panic with is theirs, and goes on.
func attempt[T any](r *reader, read func(*reader) T) (t T, e api.Errno) {
	defer func() {
		given := recover()
		_, is := given.(none)
		switch {
		case is:
			e = api.ErrCode
		case given != nil:
			panic(given)
		}
	}()
	return read(r), api.OK
}

// whole reads a thing that has just these bytes: ErrCode.
func whole[T any](b []byte, read func(*reader) T) (T, api.Errno) {
	return attempt(&reader{octets: b}, func(r *reader) T {
		t := read(r)
		r.end()
		return t
	})
}
