package schema

import (
	"errors"
	"slices"

	"swingbridge/api"
	"swingbridge/refusal"
)

// mostPlaces is of how many columns a set is, at most.
const mostPlaces = 4

// look is a schema that is looked at, and what columns may be.
type look struct {
	api.Schema
	kinds
}

func lookAt(s api.Schema) look { return look{s, types()} }

// check asks for the bounds first: lists that are too long are not gone through.
func (l look) check() error {
	if len(l.Columns) < 1 || len(l.Columns) > api.MaxColumns || len(l.Uniques) > api.MaxUniques {
		return refuse("too few columns, too many, too many unique sets")
	}
	for at, c := range l.Columns {
		if err := l.column(c); err != nil {
			return err
		}
		if l.first(c.Name) < at {
			return refuse("two columns of one name")
		}
	}
	return l.checkSets()
}

func (l look) checkSets() (err error) {
sets:
	for n, places := range l.sets {
		if len(places) < 1 || len(places) > mostPlaces {
			err = refuse("a set of too few columns, of too many")
			break sets
		}
		columns, none := pick(l.Columns, places...)
		if errors.Is(none, api.ErrRange) { // a place that is not there is told otherwise of a schema than of a row
			err = refuse("a set of columns that are not there")
			break sets
		}
		for i, c := range columns {
			switch {
			case n == 0 && c.Null:
				err = refuse("a key that may be null")
				break sets
			case slices.Index(places, places[i]) < i:
				err = refuse("a column twice in a set")
				break sets
			}
		}
	}
	return err
}

// sets goes over the schema's own sets: nobody outside may be handed these.
func (l look) sets(yield func(int, []int) bool) {
	if !yield(0, l.Key) {
		return
	}
	for i, places := range l.Uniques {
		if !yield(1+i, places) {
			return
		}
	}
}

// first tells the place of the first column of that name, -1 if there is none.
func (l look) first(name string) int {
	return slices.IndexFunc(l.Columns, func(c api.Column) bool { return c.Name == name })
}

func (l look) row(row ...api.Value) error {
	if err := l.check(); err != nil {
		return err
	}
	if len(row) != len(l.Columns) {
		return refusal.Of("a row of another length", api.ErrCount)
	}
	for at, v := range row {
		if err := l.fit(l.Columns[at], v); err != nil {
			return err
		}
	}
	return nil
}

func refuse(what string) error { return refusal.Of(what, api.ErrArg) }
