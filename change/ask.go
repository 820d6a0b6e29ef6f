package change

import (
	"slices"

	"swingbridge/api"
	"swingbridge/event"
	"swingbridge/schema"
	"swingbridge/value"
)

// left is what is left of a statement that is asked for: part by part is taken out.
type left struct {
	api.Stmt
}

// parts are what each Kind names.
func parts() map[api.StmtKind][]func(*left) bool {
	return map[api.StmtKind][]func(*left) bool{
		api.StmtGet:     {(*left).table, (*left).key},
		api.StmtScan:    {(*left).table, (*left).key, (*left).limit},
		api.StmtInsert:  {(*left).table, (*left).row},
		api.StmtIgnore:  {(*left).table, (*left).row},
		api.StmtReplace: {(*left).table, (*left).row},
		api.StmtUpdate:  {(*left).table, (*left).key, (*left).sets},
		api.StmtDelete:  {(*left).table, (*left).key},
		api.StmtCreate:  {(*left).table, (*left).schema},
		api.StmtDrop:    {(*left).table},
		api.StmtRename:  {(*left).names},
	}
}

// mayBe asks whether what a statement's Kind names may be, and whether nothing is left behind that.
func mayBe(s api.Stmt) bool {
	named, is := parts()[s.Kind]
	l := left{s}
	for _, partMayBe := range named {
		if !partMayBe(&l) {
			return false
		}
	}
	return is && l.isEmpty()
}

func (l *left) isEmpty() bool {
	many := len(l.Table) + len(l.Key) + len(l.Row) + len(l.Sets) + len(l.Names)
	return many == 0 && l.Limit == 0 && schema.Same(l.Schema, api.Schema{})
}

func (l *left) table() bool { return isName(taken(&l.Table)) }

func (l *left) key() bool { return areValues(taken(&l.Key)) }

func (l *left) row() bool { return areValues(taken(&l.Row)) }

func (l *left) limit() bool {
	n := taken(&l.Limit)
	return n >= 1 && n <= api.MaxScan
}

// sets asks for the bounds first: a list that is too long is not gone through.
func (l *left) sets() bool {
	sets := taken(&l.Sets)
	if len(sets) < 1 || len(sets) > api.MaxColumns {
		return false
	}
	var columns []string
	for _, set := range sets {
		if slices.Contains(columns, set.Column) || !isName(set.Column) || !isValue(set.Value) {
			return false
		}
		columns = append(columns, set.Column)
	}
	return true
}

func (l *left) schema() bool { return schema.Check(taken(&l.Schema)) == api.OK }

func (l *left) names() bool {
	return event.Check(api.Event{Kind: api.EventRename, Names: taken(&l.Names)}) == api.OK
}

// taken tells a part of a statement, and leaves nothing in its place.
func taken[T any](part *T) T {
	was := *part
	*part = *new(T)
	return was
}

// isName asks whether a table of that name may be dropped: tables are named as columns are.
func isName(s string) bool {
	return event.Check(api.Event{Kind: api.EventDrop, Table: s}) == api.OK
}

func isValue(v api.Value) bool { return value.Check(v) == api.OK }

// areValues asks for the bound first, too.
func areValues(l []api.Value) bool {
	return len(l) <= api.MaxColumns && !slices.ContainsFunc(l, func(v api.Value) bool { return !isValue(v) })
}
