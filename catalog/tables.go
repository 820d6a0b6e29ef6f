package catalog

import (
	"cmp"
	"errors"
	"maps"
	"slices"

	"swingbridge/api"
	"swingbridge/refusal"
	"swingbridge/table"
)

// tables are by their names. None of them is ever changed, another one comes in its place: so several catalogs may have the same ones.
type tables map[string]*table.Table

// find tells the table of a name.
func (ts tables) find(name string) (*table.Table, error) {
	t, is := ts[name]
	if !is {
		return nil, refusal.Of("a name of no table", api.ErrNone)
	}
	return t, nil
}

// free refuses a name that a table has.
func (ts tables) free(name string) error {
	if _, err := ts.find(name); !errors.Is(err, api.ErrNone) {
		return refusal.Of("a name that another table has", api.ErrTaken)
	}
	return nil
}

func (ts tables) names() []string { return rising(ts) }

func (ts tables) like(others tables) bool { return maps.EqualFunc(ts, others, table.Same) }

// rising tells the keys of a map in their order.
func rising[K cmp.Ordered, V any](m map[K]V) []K { return slices.Sorted(maps.Keys(m)) }
