// Package refusal is how layers refuse: by errors that wrap the numbers of package api. It is no layer; each of them may call it.
package refusal

import (
	"errors"

	"swingbridge/api"
)

// refused says what is refused; it wraps the number that a caller is told.
type refused struct {
	what string
	why  api.Errno
}

func (r *refused) Error() string { return r.what + ": " + r.why.Error() }

func (r *refused) Unwrap() error { return r.why }

// Of tells the error that wraps a number.
func Of(what string, why api.Errno) error { return &refused{what, why} }

// Errno tells the number that an error wraps; OK of none.
func Errno(err error) api.Errno {
	var e api.Errno
	if errors.As(err, &e) {
		return e
	}
	return api.OK
}

// GiveUp leaves what is under way by a panic, up to the Attempt around it.
func GiveUp(what string, why api.Errno) { panic(&refused{what, why}) }

// Grant gives up unless there is no error.
func Grant(what string, e api.Errno) {
	if e != api.OK {
		GiveUp(what, e)
	}
}

// Told tells a thing that a layer below answers, and gives up at its error.
func Told[T any](thing T, e api.Errno) T {
	Grant("what a layer below refuses", e)
	return thing
}

// Attempt tells a thing, or the number of what was given up at. What others panic with is theirs, and goes on. Nobody may be handed things one by one within it: his giving up would be taken for one of the Attempt's own.
func Attempt[T any](tell func() T) (thing T, e api.Errno) {
	defer func() {
		given := recover()
		r, is := given.(*refused)
		switch {
		case is:
			e = Errno(r)
		case given != nil:
			panic(given)
		}
	}()
	return tell(), api.OK
}
