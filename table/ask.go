package table

import (
	"swingbridge/api"
	"swingbridge/refusal"
)

// isNone asks whether there is no table; one that neither New nor Copy made is none, too.
func isNone(t *Table) bool { return t == nil || t.rows == nil }

// clash is why a row is refused that clashes with another one, and that one's key.
type clash struct {
	error
	key string
}

func (c *clash) Unwrap() error { return c.error }

func clashWith(key string) error {
	return &clash{refusal.Of("a row that clashes with another one", api.ErrTaken), key}
}

func tooMany() error { return refusal.Of("too many rows", api.ErrLong) }

func noRow() error { return refusal.Of("a key of no row", api.ErrNone) }
