package log

import (
	"iter"
	"slices"

	"swingbridge/api"
	"swingbridge/octet"
)

const (
	fieldBytes = 4              // of a number ahead of a record's own bytes
	headBytes  = 2 * fieldBytes // of both: how many bytes there are, and their sum
)

// record tells the record of bytes that are not too many.
func record(b []byte) []byte { return lay(field(len(b)), field(octet.Sum(b)), b) }

// field tells a number that stands ahead of a record's bytes.
func field[N int | uint32](n N) []byte {
	b, _ := octet.Fixed(uint64(n), fieldBytes) // neither how many there are, nor a sum, has more bytes
	return b
}

// lay puts parts one behind the other.
func lay(parts ...[]byte) []byte { return slices.Concat(parts...) }

// behind tells where that ends which has these bytes, and begins at a place.
func behind(at int, b []byte) int { return at + headBytes + len(b) }

// octets are bytes that begin with records.
type octets []byte

// fields tells what is said of a record that begins at a place: how many bytes it has, and their sum. It answers false where there is no room for that.
func (o octets) fields(at int) (many, sum uint64, ok bool) {
	head := o[at:]
	if len(head) < headBytes {
		return 0, 0, false
	}
	many, _ = octet.ReadFixed(head[:fieldBytes])
	sum, _ = octet.ReadFixed(head[fieldBytes:headBytes])
	return many, sum, true
}

// piece cuts a record's bytes, where it begins, by how many they are; it answers false where there are not so many, or a record has no such number. It leaves no spare room, so that nothing can be laid over the bytes behind. The sum is not asked for: of what a log has it was right when it was opened.
func (o octets) piece(at int) ([]byte, bool) {
	var begin, end int
	many, _, ok := o.fields(at)
	if !ok || many > api.MaxRecord {
		goto none
	}
	begin = at + headBytes
	end = begin + int(many)
	if end > len(o) {
		goto none
	}
	return o[begin:end:end], true
none:
	return nil, false
}

// whole cuts them if their sum is right, too.
func (o octets) whole(at int) ([]byte, bool) {
	_, sum, _ := o.fields(at)
	b, ok := o.piece(at)
	if !ok || uint64(octet.Sum(b)) != sum {
		return nil, false
	}
	return b, true
}

// find cuts the bytes of the record that begins at a position. It goes there from the first record on, since what stands within another one may look like a record.
func (o octets) find(position int) ([]byte, bool) {
records:
	for at, b := range walk(0, o.piece) {
		switch {
		case at == position:
			return b, true
		case at > position:
			break records
		}
	}
	return nil, false
}

func (o octets) begins(position int) bool {
	_, is := o.find(position)
	return is
}

// walk goes over records from a place on, each as the step tells it, as long as it tells one.
func walk(from int, step func(at int) ([]byte, bool)) iter.Seq2[int, []byte] {
	return func(yield func(int, []byte) bool) {
		at := from
	records:
		for {
			b, ok := step(at)
			switch {
			case !ok:
				break records
			case !yield(at, b):
				break records
			}
			at = behind(at, b)
		}
	}
}
