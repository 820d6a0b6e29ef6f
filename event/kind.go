package event

import (
	"swingbridge/api"
	"swingbridge/octet"
	"swingbridge/reading"
	"swingbridge/refusal"
)

// part is one of the things that a Kind names.
type part struct {
	mayBe func(x api.Event) bool
	lay   func(x api.Event) []byte
	read  func(r *reading.Reader, x *api.Event)
	empty func(x *api.Event)
}

// partOf makes the part that stands in that field of events, and is asked for, laid and read that way.
func partOf[T any](field func(x *api.Event) *T, w way[T]) part {
	return part{
		mayBe: func(x api.Event) bool { return w.mayBe(*field(&x)) },
		lay:   func(x api.Event) []byte { return w.lay(*field(&x)) },
		read:  func(r *reading.Reader, x *api.Event) { *field(x) = w.read(r) },
		empty: func(x *api.Event) { *field(x) = *new(T) },
	}
}

// kinds are what each Kind names, in the order in which it is laid.
func kinds() map[api.EventKind][]part {
	rows := way[[]api.Value]{isRow, layRow, readRow}
	table := partOf(tableOf, way[string]{isName, octet.Text, readName})
	columns := partOf(schemaOf, way[api.Schema]{isSchema, laySchema, readSchema})
	was, is := partOf(oldOf, rows), partOf(newOf, rows)
	names := partOf(namesOf, way[[][2]string]{arePairs, layPairs, readPairs})
	return map[api.EventKind][]part{
		api.EventInsert: {table, is},
		api.EventUpdate: {table, was, asLong(is)},
		api.EventDelete: {table, was},
		api.EventCreate: {table, columns},
		api.EventDrop:   {table},
		api.EventRename: {names},
	}
}

func tableOf(x *api.Event) *string { return &x.Table }

func schemaOf(x *api.Event) *api.Schema { return &x.Schema }

func oldOf(x *api.Event) *[]api.Value { return &x.Old }

func newOf(x *api.Event) *[]api.Value { return &x.New }

func namesOf(x *api.Event) *[][2]string { return &x.Names }

// asLong asks of a part, too, that both rows of its event have as many values.
func asLong(p part) part {
	alone := p.mayBe
	p.mayBe = func(x api.Event) bool { return alone(x) && len(x.Old) == len(x.New) }
	return p
}

// mayBe asks whether what an event's Kind names may be, and whether nothing is left once that is taken out.
func mayBe(x api.Event) bool {
	parts, is := kinds()[x.Kind]
	rest := x
	for _, p := range parts {
		if !p.mayBe(x) {
			return false
		}
		p.empty(&rest)
	}
	return is && Same(rest, api.Event{Kind: x.Kind})
}

// lay tells the bytes of an event that may be.
func lay(x api.Event) []byte {
	b := octet.Number(uint64(x.Kind))
	for _, p := range kinds()[x.Kind] {
		b = append(b, p.lay(x)...)
	}
	return b
}

// read takes the bytes of an event. Its own bounds only keep it from taking more than an event has: what may be is asked in the end.
func read(r *reading.Reader) api.Event {
	x := api.Event{Kind: reading.Number(r, api.EventRename)}
	for _, p := range kinds()[x.Kind] {
		p.read(r, &x)
	}
	refusal.Grant("an event that may not be", Check(x))
	return x
}

// readAll takes the bytes of several events.
func readAll(r *reading.Reader) []api.Event { return reading.Several(r, api.MaxEvents, readPacked) }

func readPacked(r *reading.Reader) api.Event {
	return refusal.Told(Decode([]byte(r.Text(anyLength))))
}
