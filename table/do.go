package table

import (
	"cmp"
	"errors"
	"maps"
	"slices"

	"swingbridge/api"
	"swingbridge/refusal"
	"swingbridge/schema"
)

// do does something with a row that fits.
func do[T any](t *Table, what func(*rows, ...api.Value) (T, error), row ...api.Value) (T, api.Errno) {
	var none T
	if isNone(t) {
		return none, api.ErrNil
	}
	if e := schema.Row(t.schema, row...); e != api.OK {
		return none, e
	}
	thing, err := what(t.rows, row...)
	return thing, refusal.Errno(err)
}

func (r *rows) key(row ...api.Value) (string, error) {
	key, _ := r.finders[0](row) // none of the Key's values is null
	return key, nil
}

// insert lets a row come, and tells that it did.
func (r *rows) insert(row ...api.Value) (bool, error) {
	if err := r.ask(row); err != nil {
		return false, err
	}
	if r.many() >= api.MaxRows {
		return false, tooMany()
	}
	r.lay(row...)
	return true, nil
}

func (r *rows) ignore(row ...api.Value) (bool, error) {
	came, err := r.insert(row...)
	if errors.Is(err, api.ErrTaken) {
		return false, nil
	}
	return came, err
}

// replace lets each row go that is in another one's way, till that comes. As soon as one went there is room, so none did, where it is refused.
func (r *rows) replace(row ...api.Value) ([][]api.Value, error) {
	went := map[string][]api.Value{}
	for {
		_, err := r.insert(row...)
		var by *clash
		switch {
		case errors.As(err, &by):
			went[by.key], _ = r.remove(by.key)
		case err != nil:
			return nil, err
		default:
			return sorted(went), nil
		}
	}
}

// update asks ahead of its first change whether the row may come.
func (r *rows) update(key string, row ...api.Value) ([]api.Value, error) {
	old, is := r.at(0, key)
	if !is {
		return nil, noRow()
	}
	if err := r.ask(row, key); err != nil {
		return nil, err
	}
	r.drop(old...)
	r.lay(row...)
	return old, nil
}

func (r *rows) remove(key string) ([]api.Value, error) {
	old, is := r.at(0, key)
	if !is {
		return nil, noRow()
	}
	r.drop(old...)
	return old, nil
}

// sorted tells what a map holds, by its keys.
func sorted[K cmp.Ordered, V any](m map[K]V) []V {
	var l []V
	for _, k := range slices.Sorted(maps.Keys(m)) {
		l = append(l, m[k])
	}
	return l
}
