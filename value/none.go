package value

import (
	"errors"

	"swingbridge/api"
)

// none says what was refused; it wraps the number that a caller is told.
type none struct {
	what string
	why  error
}

func (n *none) Error() string { return n.what + ": " + n.why.Error() }

func (n *none) Unwrap() error { return n.why }

// errno tells the number that an error wraps; OK of none.
func errno(err error) api.Errno {
	var e api.Errno
	if errors.As(err, &e) {
		return e
	}
	return api.OK
}
