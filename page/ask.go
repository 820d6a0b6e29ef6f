package page

import (
	"swingbridge/api"
	"swingbridge/refusal"
)

// ask refuses no pages, also those that neither New nor Copy made, and keys that are too long.
func (p *Pages) ask(keys ...string) error {
	if p == nil || p.list == nil {
		return refusal.Of("no pages", api.ErrNil)
	}
	for _, key := range keys {
		if len(key) > api.MaxKey {
			return refusal.Of("a key that is too long", api.ErrLong)
		}
	}
	return nil
}

// isNone asks whether there are no pages.
func isNone(p *Pages) bool { return p.ask() != nil }
