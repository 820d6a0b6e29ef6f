package convert

import (
	"swingbridge/api"
	"swingbridge/refusal"
	"swingbridge/schema"
)

// conversion makes of the values of one column those of the column that it embeds.
type conversion struct {
	api.Column
	from api.Column
	way  way
	is   bool // is there a way?
}

// between tells the conversion between two columns. Null is a value that may be, so what Fits tells of it by ErrArg is told of the column.
func (w ways) between(from, to api.Column) (conversion, error) {
	for _, c := range [2]api.Column{from, to} {
		if schema.Fits(c, api.Value{}) == api.ErrArg {
			return conversion{}, refusal.Of("a column that may not be", api.ErrArg)
		}
	}
	way, is := w[[2]api.TypeKind{from.Type, to.Type}]
	return conversion{to, from, way, is}, nil
}

func (w ways) convert(from, to api.Column, v api.Value) (api.Value, error) {
	c, err := w.between(from, to)
	if err != nil {
		return api.Value{}, err
	}
	return c.convert(v)
}

func (w ways) row(from, to []api.Column, row ...api.Value) ([]api.Value, error) {
	if len(to) != len(from) || len(row) != len(from) {
		return nil, refusal.Of("not as many columns, or values, as columns at first", api.ErrCount)
	}
	l := make([]api.Value, len(row))
	for at, v := range row {
		converted, err := w.convert(from[at], to[at], v)
		if err != nil {
			return nil, err
		}
		l[at] = converted
	}
	return l, nil
}

func (c conversion) sure() bool {
	return c.is && (c.Null || !c.from.Null) && c.way.sure(c.from.Size, c.Size)
}

// convert asks for the way ahead of null, too: where there is none, nothing goes.
func (c conversion) convert(v api.Value) (api.Value, error) {
	if e := schema.Fits(c.from, v); e != api.OK {
		return api.Value{}, refusal.Of("a value that does not fit its column", e)
	}
	if !c.is {
		return api.Value{}, refusal.Of("no way between the types", api.ErrWay)
	}
	converted, ok := v, true
	if v.Kind != api.ValueNull {
		converted, ok = c.way.turn(v)
	}
	if !ok || schema.Fits(c.Column, converted) != api.OK {
		return api.Value{}, refusal.Of("what does not fit the other column", api.ErrOver)
	}
	return converted, nil
}
