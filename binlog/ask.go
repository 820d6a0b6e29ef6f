package binlog

import (
	"swingbridge/api"
	"swingbridge/event"
	"swingbridge/log"
	"swingbridge/refusal"
)

// ask refuses no binlog, also one that Open did not make.
func (b *Binlog) ask() error {
	if b == nil || b.segments == nil {
		return refusal.Of("no binlog", api.ErrNil)
	}
	return nil
}

// isNone asks whether there is no binlog.
func isNone(b *Binlog) bool { return b.ask() != nil }

// mayPut tells the bytes of the entry of events. It refuses those for which there is no room together with the segment that may be begun first: else that would stand there, though the entry is refused.
func (b *Binlog) mayPut(l []api.Event) ([]byte, error) {
	if err := b.ask(); err != nil {
		return nil, err
	}
	packed, e := event.Pack(l...)
	if e != api.OK {
		return nil, refusal.Of("events that are no entry", e)
	}
	r, e := log.Record(packed)
	if e != api.OK {
		return nil, refusal.Of("an entry of too many bytes", e)
	}
	room := b.hasRoom
	if b.isLong() {
		room = b.mayBegin
	}
	return packed, room(len(r))
}

// mayBegin refuses a segment whose file is not empty, or for which there is no room together with so many bytes more.
func (b *Binlog) mayBegin(more int) error {
	if err := b.ask(); err != nil {
		return err
	}
	if old, _ := b.Disk.Read(fileOf(b.next())); len(old) > 0 {
		return refusal.Of("a segment's file that is not empty", api.ErrFull)
	}
	return b.hasRoom(firstAt + more)
}

func (b *Binlog) hasRoom(many int) error {
	if many > b.Left() {
		return refusal.Of("no room", api.ErrFull)
	}
	return nil
}

func (b *Binlog) mayPurge(seg int) error {
	if err := b.ask(); err != nil {
		return err
	}
	if b.segments[seg] == nil {
		return refusal.Of("a segment that is not there", api.ErrRange)
	}
	return nil
}

// mayRead refuses what is no position: no entry begins ahead of firstAt, where the segment's number stands.
func (b *Binlog) mayRead(at api.Pos) error {
	if err := b.ask(); err != nil {
		return err
	}
	l := b.segments[at.Seg]
	switch {
	case at.Seg >= 0 && at.Seg < b.first:
		return refusal.Of("a segment that was purged", api.ErrGone)
	case l == nil || at.At < firstAt || at.At > l.End():
		return refusal.Of("a position that is none", api.ErrRange)
	}
	return nil
}
