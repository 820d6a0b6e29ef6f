package disk

import (
	"cmp"
	"maps"
	"slices"
)

// files are the bytes of those that are not empty. Bytes that a file has are never written over, so they may be held as they are: what is put there goes behind them, or, behind a cut, is laid elsewhere.
type files map[int][]byte

// set lets a file have these bytes. An empty one goes, as if nothing had ever been there.
func (f files) set(file int, b []byte) {
	if len(b) == 0 {
		delete(f, file)
		return
	}
	f[file] = b
}

func (f files) put(file int, s string) { f.set(file, append(f[file], s...)) }

func (f files) cut(file, many int) { f.set(file, first(f[file], many)) }

// first cuts bytes to so many. It leaves no spare room, so that what is put behind these is not laid over the others, which may be what was synced.
func first(b []byte, many int) []byte { return b[:many:many] }

// apart copies files, each byte of them.
func (f files) apart() files {
	c := files{}
	for file, b := range f {
		c[file] = slices.Clone(b)
	}
	return c
}

// all tells how many bytes all of them have.
func (f files) all() int {
	many := 0
	for _, b := range f {
		many += len(b)
	}
	return many
}

// rising goes over the files by their numbers.
func (f files) rising(yield func(int, []byte) bool) {
	for _, file := range sorted(f) {
		if !yield(file, f[file]) {
			return
		}
	}
}

// sorted tells a map's keys, since the order in which it is gone through is no answer.
func sorted[K cmp.Ordered, V any](m map[K]V) []K { return slices.Sorted(maps.Keys(m)) }

func (f files) same(g files) bool { return maps.EqualFunc(f, g, slices.Equal) }
