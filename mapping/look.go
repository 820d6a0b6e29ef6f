package mapping

import (
	"slices"

	"swingbridge/api"
	"swingbridge/convert"
	"swingbridge/key"
	"swingbridge/refusal"
	"swingbridge/schema"
)

// always stands in the place of a column of Old: what is made is always the rule's Value.
const always = -1

// look is a mapping that is looked at, and may be.
type look struct{ api.Mapping }

// lookAt gives up at a mapping that may not be.
func lookAt(m api.Mapping) look {
	l := look{m}
	refusal.Grant("a schema of rows at first that may not be", schema.Check(l.Old))
	refusal.Grant("a schema of rows then that may not be", schema.Check(l.New))
	if len(l.Rules) != len(l.New.Columns) {
		refusal.GiveUp("not as many rules as columns then", api.ErrCount)
	}
	for at, r := range l.Rules {
		l.checkRule(l.New.Columns[at], r)
	}
	l.checkShared()
	return l
}

func (l look) checkRule(to api.Column, r api.Rule) {
	switch {
	case r.From == always:
		refusal.Grant("a value that does not fit its column", schema.Fits(to, r.Value))
	case r.From < 0 || r.From >= len(l.Old.Columns):
		refusal.GiveUp("from a place that is not there", api.ErrRange)
	case !convert.Way(l.Old.Columns[r.From].Type, to.Type):
		refusal.GiveUp("no way between the types", api.ErrWay)
	}
}

func (l look) checkShared() {
	from, to := set(l.Old, l.OldSet), set(l.New, l.NewSet)
	if len(from) == 0 || len(to) != len(from) {
		refusal.GiveUp("a set that is not there, or two of unlike many columns", api.ErrShared)
	}
	for i, at := range to {
		if l.Rules[at].From != from[i] || l.Old.Columns[from[i]].Null || !l.sure(at) {
			refusal.GiveUp("no column that comes from that one, never null, and surely", api.ErrShared)
		}
	}
}

// own shares no memory of what its conversions hang on: what is handed in is its holder's again before they are gone over.
func (l look) own() look {
	l.Old.Columns, l.New.Columns, l.Rules = slices.Clone(l.Old.Columns), slices.Clone(l.New.Columns), slices.Clone(l.Rules)
	return l
}

// conversions goes over the rules that are conversions, each with the place of its column in New.
func (l look) conversions(yield func(int, api.Rule) bool) {
	for at, r := range l.Rules {
		if r.From != always && !yield(at, r) {
			return
		}
	}
}

// sure asks of the rule of that place, which is a conversion, whether it refuses none.
func (l look) sure(at int) bool {
	return refusal.Told(convert.Sure(l.Old.Columns[l.Rules[at].From], l.New.Columns[at]))
}

// maker tells what the rule of that place makes of rows of Old.
func (l look) maker(at int) func(row ...api.Value) api.Value {
	r, to := l.Rules[at], l.New.Columns[at]
	if r.From == always {
		return func(...api.Value) api.Value { return r.Value }
	}
	from := l.Old.Columns[r.From]
	return func(row ...api.Value) api.Value { return refusal.Told(convert.Convert(from, to, row[r.From])) }
}

func (l look) row(row ...api.Value) []api.Value {
	refusal.Grant("a row that does not fit", schema.Row(l.Old, row...))
	made := make([]api.Value, len(l.Rules))
	for at := range made {
		made[at] = l.maker(at)(row...)
	}
	return made
}

// turn lays a key's values into a row where nothing else is: the rules of the shared key look at nothing else.
func (l look) turn(old string) string {
	values := refusal.Told(key.Decode(old))
	from := set(l.Old, l.OldSet)
	if len(values) != len(from) {
		refusal.GiveUp("not as many values as the shared key has", api.ErrKey)
	}
	row := make([]api.Value, len(l.Old.Columns))
	for i, at := range from {
		row[at] = values[i]
	}
	turned, e := refusal.Attempt(func() []api.Value {
		var turned []api.Value
		for _, at := range set(l.New, l.NewSet) {
			turned = append(turned, l.maker(at)(row...))
		}
		return turned
	})
	if e != api.OK {
		refusal.GiveUp("a value that no row's shared key has", api.ErrKey)
	}
	return refusal.Told(key.Encode(turned...))
}

// shared tells the key of a row's values in one of its schema's sets.
func shared(s api.Schema, number int, row ...api.Value) string {
	refusal.Grant("a row that does not fit", schema.Row(s, row...))
	return refusal.Told(key.Encode(refusal.Told(schema.Pick(row, set(s, number)...))...))
}

// set tells the places of the set of that number; none, where it is not there.
func set(s api.Schema, number int) []int {
	for n, places := range schema.Sets(s) {
		if n == number {
			return places
		}
	}
	return nil
}
