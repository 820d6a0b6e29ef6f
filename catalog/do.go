package catalog

import (
	"slices"

	"swingbridge/api"
	"swingbridge/refusal"
	"swingbridge/table"
)

// kinds are what events do. Where one is refused these tables are seen no more, so it may have been done in part.
func kinds() map[api.EventKind]func(tables, api.Event) error {
	return map[api.EventKind]func(tables, api.Event) error{
		api.EventInsert: tables.insert,
		api.EventUpdate: tables.update,
		api.EventDelete: tables.remove,
		api.EventCreate: tables.create,
		api.EventDrop:   tables.drop,
		api.EventRename: tables.rename,
	}
}

func (ts tables) do(x api.Event) error {
	if err := check(x); err != nil {
		return err
	}
	return kinds()[x.Kind](ts, x)
}

func (ts tables) insert(x api.Event) error {
	return ts.turn(x, func(t *table.Table, _ string) api.Errno { return t.Insert(x.New...) })
}

func (ts tables) update(x api.Event) error {
	return ts.turn(x, func(t *table.Table, key string) api.Errno {
		_, e := t.Update(key, x.New...)
		return e
	})
}

func (ts tables) remove(x api.Event) error {
	return ts.turn(x, func(t *table.Table, key string) api.Errno {
		_, e := t.Delete(key)
		return e
	})
}

// turn lets a table become what is made of a copy of it, given the key of the row that goes.
func (ts tables) turn(x api.Event, how func(t *table.Table, key string) api.Errno) error {
	old, err := ts.find(x.Table)
	if err != nil {
		return err
	}
	next := old.Copy()
	key, err := going(next, x.Old...)
	if err != nil {
		return err
	}
	if e := how(next, key); e != api.OK {
		return refusal.Of("a row that its table refuses", e)
	}
	ts[x.Table] = next
	return nil
}

// going tells the key of a row that its table must have, just so; of no values, where no row goes, no key.
func going(t *table.Table, row ...api.Value) (string, error) {
	key, _ := t.Key(row...) // of a row that does not fit it is none, and no row has that
	if is, _ := t.Get(key); !slices.Equal(is, row) {
		return "", refusal.Of("a row that its table has not, just so", api.ErrStale)
	}
	return key, nil
}

func (ts tables) create(x api.Event) error {
	if err := ts.free(x.Table); err != nil {
		return err
	}
	if len(ts) >= api.MaxTables {
		return refusal.Of("too many tables", api.ErrLong)
	}
	ts[x.Table], _ = table.New(x.Schema) // an event whose Schema may not be may not be, either
	return nil
}

func (ts tables) drop(x api.Event) error {
	_, err := ts.find(x.Table)
	delete(ts, x.Table)
	return err
}

// rename takes all tables that are named first away ahead of laying any, so that two may change their names.
func (ts tables) rename(x api.Event) error {
	var moved []*table.Table
	for _, pair := range x.Names {
		t, err := ts.find(pair[0])
		if err != nil {
			return err
		}
		moved = append(moved, t)
		delete(ts, pair[0])
	}
	for n, pair := range x.Names {
		if err := ts.free(pair[1]); err != nil {
			return err
		}
		ts[pair[1]] = moved[n]
	}
	return nil
}
