package change

import (
	"slices"

	"swingbridge/api"
	"swingbridge/catalog"
	"swingbridge/key"
	"swingbridge/refusal"
	"swingbridge/schema"
	"swingbridge/table"
)

// work is a statement under way.
type work struct {
	api.Stmt
	over   *catalog.Catalog
	events []api.Event
	reply  api.Reply
}

// kinds are what statements do.
func kinds() map[api.StmtKind]func(*work) {
	return map[api.StmtKind]func(*work){
		api.StmtGet:     (*work).get,
		api.StmtScan:    (*work).scan,
		api.StmtInsert:  (*work).come,
		api.StmtIgnore:  (*work).come,
		api.StmtReplace: (*work).come,
		api.StmtUpdate:  (*work).update,
		api.StmtDelete:  (*work).remove,
		api.StmtCreate:  (*work).create,
		api.StmtDrop:    (*work).drop,
		api.StmtRename:  (*work).rename,
	}
}

// run tells what a statement does over a catalog, and answers, and does it to one that is the same: only that can tell which events are refused.
func run(over, to *catalog.Catalog, s api.Stmt) ([]api.Event, api.Reply) {
	w, e := refusal.Attempt(func() *work {
		if over.Copy() == nil {
			refusal.GiveUp("no catalog", api.ErrNil)
		}
		refusal.Grant("a statement that may not be", Check(s))
		w := &work{Stmt: s, over: over}
		kinds()[w.Kind](w)
		_, e := to.All(w.events...)
		return refusal.Told(w, e)
	})
	if e != api.OK {
		return nil, api.Reply{Errno: e}
	}
	return w.events, w.reply
}

func (w *work) get() { w.reply.Rows = w.there(w.find()) }

func (w *work) scan() {
	t := w.find()
	w.reply.Rows = pick(t, w.key(t), func(ahead int, _ string) bool { return ahead < w.Limit })
}

// come asks a copy of the table which rows go where this one replaces them. An insert that clashes with one is refused as its event is.
func (w *work) come() {
	clashing := refusal.Told(w.find().Replace(w.Row...))
	var l []api.Event
	switch {
	case w.Kind == api.StmtIgnore && len(clashing) > 0:
	case w.Kind == api.StmtReplace:
		for _, old := range clashing {
			l = append(l, api.Event{Kind: api.EventDelete, Table: w.Table, Old: old})
		}
		fallthrough
	default:
		l = append(l, api.Event{Kind: api.EventInsert, Table: w.Table, New: slices.Clone(w.Row)})
	}
	w.turn(l...)
}

func (w *work) update() {
	t := w.find()
	places := w.places(t)
	for _, old := range w.there(t) {
		row := slices.Clone(old)
		for n, set := range w.Sets {
			row[places[n]] = set.Value
		}
		if !slices.Equal(row, old) {
			w.turn(api.Event{Kind: api.EventUpdate, Table: w.Table, Old: old, New: row})
		}
	}
}

func (w *work) remove() {
	for _, old := range w.there(w.find()) {
		w.turn(api.Event{Kind: api.EventDelete, Table: w.Table, Old: old})
	}
}

func (w *work) create() {
	t, _ := table.New(w.Schema) // whose Schema is new memory
	w.do(api.Event{Kind: api.EventCreate, Table: w.Table, Schema: t.Schema()})
}

func (w *work) drop() { w.do(api.Event{Kind: api.EventDrop, Table: w.Table}) }

func (w *work) rename() {
	w.do(api.Event{Kind: api.EventRename, Names: slices.Clone(w.Names)})
}

func (w *work) do(l ...api.Event) { w.events = append(w.events, l...) }

// turn does events of rows: the reply says how many there are.
func (w *work) turn(l ...api.Event) {
	w.do(l...)
	w.reply.Many = len(w.events)
}

// find tells a copy of the table.
func (w *work) find() *table.Table {
	t, is := w.over.Table(w.Table)
	if !is {
		refusal.GiveUp("a name of no table", api.ErrNone)
	}
	return t
}

// places are those of the columns whose values are set.
func (w *work) places(t *table.Table) (l []int) {
	s := t.Schema()
	for _, set := range w.Sets {
		at, is := schema.Place(s, set.Column)
		if !is {
			refusal.GiveUp("a name of no column", api.ErrNone)
		}
		l = append(l, at)
	}
	return l
}

// key tells the key of the Key's values, of which a scan may have fewer than the table.
func (w *work) key(t *table.Table) string {
	more := len(w.Key) - len(t.Schema().Key)
	if more > 0 || more < 0 && w.Kind != api.StmtScan {
		refusal.GiveUp("another number of values than the Key has", api.ErrCount)
	}
	return refusal.Told(key.Encode(w.Key...))
}

// there tells the row of the key alone, or none.
func (w *work) there(t *table.Table) [][]api.Value {
	own := w.key(t)
	return pick(t, own, func(_ int, key string) bool { return key == own })
}

// pick tells the rows from a key on, up to the first one that is not to be picked, given how many are ahead of it, and its key.
func pick(t *table.Table, from string, is func(ahead int, key string) bool) (l [][]api.Value) {
	for key, row := range t.Rows(from) {
		if !is(len(l), key) {
			break
		}
		l = append(l, row)
	}
	return l
}
