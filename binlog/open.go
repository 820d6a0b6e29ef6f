package binlog

import (
	"cmp"
	"maps"
	"slices"

	"swingbridge/api"
	"swingbridge/disk"
	"swingbridge/event"
	"swingbridge/log"
	"swingbridge/octet"
	"swingbridge/refusal"
)

// greatest is the highest number of a segment that is opened.
const greatest = 1 << 40

// files are those of a disk that is opened.
type files struct{ *disk.Disk }

// found is what they have: segments, by their rising numbers, and files without any whole record. The first segment is 1, where none is there yet.
type found struct {
	numbers, torn []int
	first         int
}

// find opens the log in each file, and gives up at files that are no binlog.
func (f files) find() found {
	var torn []int
	logs := map[int]*log.Log{}
	for file := range f.Files() {
		if file < firstFile {
			continue
		}
		l := refusal.Told(log.Open(f.Disk, file))
		if l.End() == 0 {
			torn = append(torn, file)
			continue
		}
		logs[numberOf(l, file)] = l
		holdEntries(l)
	}
	numbers := rising(logs)
	if len(numbers) == 0 {
		f.holdRoom()
		return found{torn: torn, first: 1}
	}
	holdOrder(logs, numbers)
	return found{numbers, torn, numbers[0]}
}

// numberOf tells the number of the segment in a file; it gives up at what is none, or belongs elsewhere.
func numberOf(l *log.Log, file int) int {
	b, _, _ := l.Read(0)
	n, _ := octet.ReadFixed(b)
	if len(b) != numberBytes || n < 1 || n > greatest || fileOf(int(n)) != file {
		refusal.GiveUp("a file that does not begin with its segment's number", api.ErrBinlog)
	}
	return int(n)
}

// holdEntries gives up at a record behind the first one that is no entry.
func holdEntries(l *log.Log) {
	for _, b := range l.Each(firstAt) {
		if _, e := event.Unpack(b); e != api.OK {
			refusal.GiveUp("a record that is no entry", api.ErrBinlog)
		}
	}
}

// holdOrder gives up at segments that do not follow one another, and at one that another follows, though something stands behind its records.
func holdOrder(logs map[int]*log.Log, numbers []int) {
	last := len(numbers) - 1
	for i, seg := range numbers {
		switch {
		case seg != numbers[0]+i:
			refusal.GiveUp("a segment that is missing", api.ErrBinlog)
		case i < last && logs[seg].Torn() > 0:
			refusal.GiveUp("a segment that is torn, though another one follows it", api.ErrBinlog)
		}
	}
}

// holdRoom gives up where there is no room for a segment. What is no whole record was cut when the files' logs were opened.
func (f files) holdRoom() {
	if f.Left() < firstAt {
		refusal.GiveUp("no room for the first segment", api.ErrFull)
	}
}

// rising tells the keys of a map in their order.
func rising[K cmp.Ordered, V any](m map[K]V) []K { return slices.Sorted(maps.Keys(m)) }
