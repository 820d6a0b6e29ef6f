package binlog

import (
	"iter"

	"swingbridge/api"
	"swingbridge/event"
	"swingbridge/refusal"
)

// entry is the events that were done together, where it begins, and the position behind it.
type entry struct {
	at, next api.Pos
	events   []api.Event
}

// find tells the entry at a position, or, at a segment's end, the first one of those that follow.
func (b *Binlog) find(at api.Pos) (entry, error) {
	if err := b.mayRead(at); err != nil {
		return entry{}, err
	}
	for end := b.end(); at != end; at = begins(at.Seg + 1) {
		if at.At < b.segments[at.Seg].End() {
			return b.read(at)
		}
	}
	return entry{}, refusal.Of("the end", api.ErrEnd)
}

// read tells the entry that begins at a position; it refuses one at which none does.
func (b *Binlog) read(at api.Pos) (entry, error) {
	packed, behind, e := b.segments[at.Seg].Read(at.At)
	if e != api.OK {
		return entry{}, refusal.Of("a place at which no entry begins", e)
	}
	l, e := event.Unpack(packed)
	if e != api.OK { // somebody else wrote into the file since it was opened
		return entry{}, refusal.Of("a place at which no entry stands any more", api.ErrRange)
	}
	return entry{at, api.Pos{Seg: at.Seg, At: behind}, l}, nil
}

// walk goes over entries from a position on, each as the step tells it, as long as it tells one.
func walk(from api.Pos, step func(api.Pos) (entry, error)) iter.Seq2[api.Pos, []api.Event] {
	return func(yield func(api.Pos, []api.Event) bool) {
		for x, err := step(from); err == nil; x, err = step(x.next) {
			if !yield(x.at, x.events) {
				return
			}
		}
	}
}
