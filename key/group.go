package key

import (
	"slices"

	"swingbridge/api"
)

const (
	groupBytes = 8              // the most bytes of a group
	follow     = groupBytes + 1 // told in the place of how many there are, while more groups follow
)

// group is some bytes, 0 in the place of those that are not there, and behind them how many there are.
type group [groupBytes + 1]byte

// groupOf tells the group of at most eight bytes, with what is told behind them.
func groupOf(b []byte, mark byte) group {
	var g group
	copy(g[:groupBytes], b)
	g[groupBytes] = mark
	return g
}

// layBytes lays each group as the next one comes, since only then it is known that more follow. Where there are no bytes, the one group that is laid is that of none.
func layBytes(v api.Value) []byte {
	var b []byte
	var last group
	for piece := range slices.Chunk([]byte(v.Bytes), groupBytes) {
		if last[groupBytes] > 0 {
			last[groupBytes] = follow
			b = append(b, last[:]...)
		}
		last = groupOf(piece, byte(len(piece)))
	}
	return append(b, last[:]...)
}

// readBytes lets a group of none stand alone: behind others the one ahead of it would be the last.
func readBytes(r *reader) api.Value {
	b, more := r.group()
	for more {
		var piece []byte
		piece, more = r.group()
		b = append(b, piece...)
		if len(piece) == 0 || len(b) > api.MaxBytes {
			panic(none("a group that follows nothing, or too many bytes"))
		}
	}
	return api.Value{Kind: api.ValueBytes, Bytes: string(b)}
}

// group takes a group, and tells its bytes, and whether more follow.
func (r *reader) group() (b []byte, more bool) {
	var g group
	copy(g[:], r.take(len(g)))
	mark := g[groupBytes]
	b = slices.Clone(g[:min(mark, groupBytes)])
	if mark > follow || g != groupOf(b, mark) {
		panic(none("no group, or other bytes than 0 in the place of those that are not there"))
	}
	return b, mark == follow
}
