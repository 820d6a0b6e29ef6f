package table

import (
	"slices"

	"swingbridge/api"
	"swingbridge/key"
	"swingbridge/schema"
)

// finder tells the key by which a row is found in a set; none, where one of its values there is null, since then it clashes with no other one.
type finder func(row []api.Value) (key string, is bool)

func finderOf(places ...int) finder {
	return func(row []api.Value) (string, bool) {
		vals, _ := schema.Pick(row, places...) // of a row that fits they are all there
		return together(vals...)
	}
}

// together tells the key of a set's values; none, where one is null, or may not be.
func together(vals ...api.Value) (string, bool) {
	if slices.Contains(vals, api.Value{}) {
		return "", false
	}
	k, e := key.Encode(vals...)
	return k, e == api.OK
}

// own copies a schema that may be, so that its holder and the table don't see what the other one does with his.
func own(s api.Schema) api.Schema {
	c := api.Schema{Columns: slices.Clone(s.Columns)}
	for n, places := range schema.Sets(s) {
		if n == 0 {
			c.Key = places
		} else {
			c.Uniques = append(c.Uniques, places)
		}
	}
	return c
}
