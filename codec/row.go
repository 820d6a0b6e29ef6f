package codec

import (
	"swingbridge/api"
	"swingbridge/reading"
	"swingbridge/refusal"
)

// What stands in each column's place ahead of all else.
const (
	isNull  = 0
	follows = 1 // the value, which is not null
)

// layout is columns that may be, and how their Types are laid and read.
type layout struct {
	columns []api.Column
	kinds   map[api.TypeKind]kind
}

func layoutOf(l []api.Column) layout { return layout{l, kinds()} }

// lay tells the bytes of a row that fits.
func (l layout) lay(row ...api.Value) []byte {
	var b []byte
	for at, c := range l.columns {
		if row[at].Kind == api.ValueNull {
			b = append(b, isNull)
			continue
		}
		b = append(b, follows)
		b = append(b, l.kinds[c.Type].lay(c.Size, row[at])...)
	}
	return b
}

// read takes the bytes of one row. Each value is asked for as it is read, so what is read fits.
func (l layout) read(r *reading.Reader) []api.Value {
	row := make([]api.Value, len(l.columns))
	for at, c := range l.columns {
		switch {
		case bit(r) == follows:
			row[at] = l.kinds[c.Type].read(r, c.Size)
		case !c.Null:
			refusal.GiveUp("null, where that may not be", api.ErrCode)
		}
	}
	return row
}

// width tells how many bytes rows that fit have, at least, and at most. Null is never wider than another value.
func (l layout) width() (least, most int) {
	for _, c := range l.columns {
		short, long := l.kinds[c.Type].width(c.Size)
		if c.Null {
			short = 0
		}
		least += 1 + short
		most += 1 + long
	}
	return least, most
}
