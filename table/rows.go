package table

import (
	"iter"
	"slices"

	"swingbridge/api"
	"swingbridge/codec"
	"swingbridge/page"
	"swingbridge/schema"
)

// rows are a table's, as bytes (layer 4): each set's Pages have those that its finder finds, under their keys there. The Key finds each of them.
type rows struct {
	schema  api.Schema
	sets    []*page.Pages
	finders []finder
}

// rowsOf makes rows of a schema that may be, none as yet.
func rowsOf(s api.Schema) *rows {
	r := &rows{schema: own(s)}
	for _, places := range schema.Sets(s) {
		r.sets = append(r.sets, page.New())
		r.finders = append(r.finders, finderOf(places...))
	}
	return r
}

// apart copies rows; what is never written over both may have.
func (r *rows) apart() *rows {
	c := &rows{schema: r.schema, finders: r.finders}
	for _, pages := range r.sets {
		c.sets = append(c.sets, pages.Copy())
	}
	return c
}

func (r *rows) many() int { return r.sets[0].Len() }

// read tells the row of bytes that lay told.
func (r *rows) read(b string) []api.Value {
	row, _ := codec.Decode(r.schema, []byte(b))
	return row
}

// at tells the row that has a key in a set.
func (r *rows) at(set int, key string) ([]api.Value, bool) {
	b, is := r.sets[set].Get(key)
	if !is {
		return nil, false
	}
	return r.read(b), true
}

// from goes over the rows whose keys are not below one, as they are now.
func (r *rows) from(key string) iter.Seq2[string, []api.Value] {
	now := r.sets[0].From(key)
	return func(yield func(string, []api.Value) bool) {
	rows:
		for key, b := range now {
			if !yield(key, r.read(b)) {
				break rows
			}
		}
	}
}

// under goes over the sets in which a row is found, or would be, each with its key there.
func (r *rows) under(row ...api.Value) iter.Seq2[int, string] {
	return func(yield func(int, string) bool) {
		for set, find := range r.finders {
			if key, is := find(row); is && !yield(set, key) {
				return
			}
		}
	}
}

// lay lets a row that fits, and clashes with none, be there.
func (r *rows) lay(row ...api.Value) {
	b, _ := codec.Encode(r.schema, row...)
	for set, key := range r.under(row...) {
		r.sets[set].Put(key, string(b))
	}
}

// drop lets a row that is there be there no more.
func (r *rows) drop(row ...api.Value) {
	for set, key := range r.under(row...) {
		r.sets[set].Take(key)
	}
}

// ask refuses a row that clashes with another one than those of these keys.
func (r *rows) ask(row []api.Value, but ...string) (err error) {
sets:
	for set, key := range r.under(row...) {
		other, is := r.at(set, key)
		if !is {
			continue
		}
		if theirs, _ := r.key(other...); !slices.Contains(but, theirs) {
			err = clashWith(theirs)
			break sets
		}
	}
	return err
}

// like tells whether others are the same, and of the same schema: then the same ones have the same bytes, and what is not there has none.
func (r *rows) like(others *rows) bool {
	if !schema.Same(r.schema, others.schema) || r.many() != others.many() {
		return false
	}
	for key, b := range r.sets[0].From("") {
		if theirs, _ := others.sets[0].Get(key); theirs != b {
			return false
		}
	}
	return true
}
