// Package reading is how layers take things from bytes, from the left. It is no layer; each one above layer 2 may call it.
package reading

import (
	"swingbridge/api"
	"swingbridge/octet"
	"swingbridge/refusal"
)

// octets are bytes of which pieces are cut.
type octets []byte

// piece cuts so many bytes from a place on, and gives up where there are not so many. It leaves no spare room, so that nothing can be laid over the bytes behind.
func (o octets) piece(at, many int) []byte {
	if many > len(o)-at {
		refusal.GiveUp("bytes that end ahead of their end", api.ErrOctet)
	}
	end := at + many
	return o[at:end:end]
}

// Reader takes bytes from the left; at is how many are taken. One that gave up is read no further.
type Reader struct {
	octets
	at int
}

// Of makes the reader of bytes, which stay their holder's: they are neither copied nor changed.
func Of(b []byte) *Reader { return &Reader{octets: b} }

// At tells how many bytes are taken.
func (r *Reader) At() int { return r.at }

// rest cuts all that stands behind what is taken.
func (r *Reader) rest() []byte { return r.piece(r.at, len(r.octets)-r.at) }

// Take takes so many bytes.
func (r *Reader) Take(many int) []byte {
	b := r.piece(r.at, many)
	r.at += many
	return b
}

// Text takes a text of at most so many bytes.
func (r *Reader) Text(most int) string {
	s, many, e := octet.ReadText(r.rest())
	if e != api.OK || len(s) > most {
		refusal.GiveUp("no text, or one that is too long", api.ErrOctet)
	}
	r.at += many
	return s
}

// end asks for nothing behind what is taken.
func (r *Reader) end() {
	if r.at < len(r.octets) {
		refusal.GiveUp("bytes behind the end", api.ErrOctet)
	}
}

// Number takes a number of layer 2. It asks for the bound before the number becomes another type's, which may hold less.
func Number[N ~int](r *Reader, most N) N {
	n, many, e := octet.ReadNumber(r.rest())
	if e != api.OK || n > uint64(most) {
		refusal.GiveUp("no number, or one that is too great", api.ErrOctet)
	}
	r.at += many
	return N(n)
}

// Several takes how many things there are, and then these.
func Several[T any](r *Reader, most int, read func(*Reader) T) []T {
	var l []T
	for range Number(r, most) {
		l = append(l, read(r))
	}
	return l
}

// Whole reads a thing that has just these bytes. Whatever it gives up at, what is told of bytes that are none's is the caller's own number.
func Whole[T any](b []byte, none api.Errno, read func(*Reader) T) (T, api.Errno) {
	t, e := refusal.Attempt(func() T {
		r := Of(b)
		t := read(r)
		r.end()
		return t
	})
	if e != api.OK {
		return t, none
	}
	return t, api.OK
}
