package convert

import (
	"errors"

	"swingbridge/api"
)

// misfit says what is not converted; it wraps the number that a caller is told.
type misfit struct {
	what string
	why  api.Errno
}

func (m *misfit) Error() string { return m.what + ": " + m.why.Error() }

func (m *misfit) Unwrap() error { return m.why }

// errno tells the number that an error wraps; OK of none.
func errno(err error) api.Errno {
	var e api.Errno
	if errors.As(err, &e) {
		return e
	}
	return api.OK
}
