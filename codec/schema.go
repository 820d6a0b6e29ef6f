package codec

import (
	"swingbridge/api"
	"swingbridge/octet"
	"swingbridge/reading"
	"swingbridge/refusal"
	"swingbridge/schema"
)

// laySchema tells the bytes of a schema that may be. The Key is the first of its sets: how many others there are stands behind it.
func laySchema(s api.Schema) []byte {
	b := layNumbers(nil, len(s.Columns))
	for _, c := range s.Columns {
		b = append(b, octet.Text(c.Name)...)
		b = layNumbers(b, int(c.Type), c.Size, truth(c.Null))
	}
	for n, places := range schema.Sets(s) {
		b = layNumbers(b, len(places))
		b = layNumbers(b, places...)
		if n == 0 {
			b = layNumbers(b, len(s.Uniques))
		}
	}
	return b
}

// layNumbers lays numbers from 0 on behind what is laid.
func layNumbers(b []byte, l ...int) []byte {
	for _, n := range l {
		b = append(b, octet.Number(uint64(n))...)
	}
	return b
}

func truth(is bool) int {
	if is {
		return 1
	}
	return 0
}

// readSchema takes the bytes of a schema. Its own bounds only keep it from taking more than a schema has: what may be, layer 3 says.
func readSchema(r *reading.Reader) api.Schema {
	var s api.Schema
	s.Columns = reading.Several(r, api.MaxColumns, readColumn)
	s.Key = readPlaces(r)
	s.Uniques = reading.Several(r, api.MaxUniques, readPlaces)
	refusal.Grant("a schema that may not be", schema.Check(s))
	return s
}

func readColumn(r *reading.Reader) api.Column {
	var c api.Column
	c.Name = r.Text(api.MaxName)
	c.Type = reading.Number(r, api.TypeBytes)
	c.Size = reading.Number(r, api.MaxBytes)
	c.Null = reading.Number(r, 1) == 1
	return c
}

func readPlaces(r *reading.Reader) []int { return reading.Several(r, api.MaxColumns, readPlace) }

func readPlace(r *reading.Reader) int { return reading.Number(r, api.MaxColumns) }
