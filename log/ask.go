package log

import (
	"swingbridge/api"
	"swingbridge/refusal"
)

// ask refuses no log, also one that Open did not make.
func (l *Log) ask() error {
	if l == nil || l.Disk == nil {
		return refusal.Of("no log", api.ErrNil)
	}
	return nil
}

// isNone asks whether there is no log.
func isNone(l *Log) bool { return l.ask() != nil }

// mayBe refuses bytes that are too many for a record.
func mayBe(b []byte) error {
	if len(b) > api.MaxRecord {
		return refusal.Of("too many bytes", api.ErrLong)
	}
	return nil
}

func (l *Log) mayPut(b []byte) error {
	if err := l.ask(); err != nil {
		return err
	}
	return mayBe(b)
}

// octets reads the log's file, as it is now; of no log there are none.
func (l *Log) octets() octets {
	if isNone(l) {
		return nil
	}
	b, _ := l.Disk.Read(l.file) // it was there when the log was opened
	return b
}

// find cuts the record that begins at a position; it refuses no log, and a number at which none begins.
func (l *Log) find(at int) ([]byte, error) {
	if err := l.ask(); err != nil {
		return nil, err
	}
	b, ok := l.octets().find(at)
	if !ok {
		return nil, refusal.Of("a number at which no record begins", api.ErrRange)
	}
	return b, nil
}
