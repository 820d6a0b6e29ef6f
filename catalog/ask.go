package catalog

import (
	"slices"

	"swingbridge/api"
	"swingbridge/event"
	"swingbridge/refusal"
)

// isNone asks whether there is no catalog; one that neither New nor Copy made is none, too.
func isNone(c *Catalog) bool { return c == nil || c.tables == nil }

// check refuses an event that no catalog does.
func check(x api.Event) error {
	if e := event.Check(x); e != api.OK {
		return refusal.Of("an event that may not be", e)
	}
	var firsts []string
	for _, pair := range x.Names {
		if slices.Contains(firsts, pair[0]) {
			return refusal.Of("a rename of one table to two names", api.ErrArg)
		}
		firsts = append(firsts, pair[0])
	}
	return nil
}
