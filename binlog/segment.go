package binlog

import (
	"swingbridge/api"
	"swingbridge/log"
	"swingbridge/octet"
)

const (
	firstFile   = 2 // those ahead of it are not a binlog's
	manyFiles   = api.MaxFiles - firstFile
	numberBytes = 8  // of a segment's number, its first record
	firstAt     = 16 // where a segment's first entry begins: behind that record
)

// fileOf tells the file that a segment has.
func fileOf(seg int) int { return firstFile + seg%manyFiles }

// begins tells where a segment's first entry begins, or would.
func begins(seg int) api.Pos { return api.Pos{Seg: seg, At: firstAt} }

// next tells the number of the segment that is begun next.
func (b *Binlog) next() int { return b.first + len(b.segments) }

// begin lays the next segment's first record into its file, which is empty, and has room.
func (b *Binlog) begin() {
	seg := b.next()
	number, _ := octet.Fixed(uint64(seg), numberBytes) // so many bytes hold each number
	l, _ := log.Open(b.Disk, fileOf(seg))
	l.Append(number)
	b.segments[seg] = l
}

// end tells the end of the last segment.
func (b *Binlog) end() api.Pos {
	last := b.next() - 1
	return api.Pos{Seg: last, At: b.segments[last].End()}
}

// isLong asks whether the last segment has so many bytes that the next entry stands in another one.
func (b *Binlog) isLong() bool { return b.end().At >= api.SegBytes }
