package reading_test

import (
	"bytes"
	"math"
	"slices"
	"testing"

	"swingbridge/api"
	"swingbridge/reading"
	"swingbridge/refusal"
)

func TestTakesFromTheLeft(t *testing.T) {
	b := []byte("\x01\x07\x01\x02ab\xff\x00\x02\x01\x02\x01\x02\x00\x01\x05")
	type all struct {
		n    api.TypeKind
		s    string
		b    string
		none int
		l    []int
		ends [5]int
	}
	read := func(r *reading.Reader) (a all) {
		a.n = reading.Number[api.TypeKind](r, 7)
		a.ends[0] = r.At()
		a.s = r.Text(2)
		a.ends[1] = r.At()
		a.b = string(r.Take(2))
		a.ends[2] = r.At()
		a.none = reading.Number(r, math.MaxInt)
		a.ends[3] = r.At()
		a.l = reading.Several(r, 2, func(r *reading.Reader) int { return reading.Number(r, 5) })
		a.ends[4] = r.At()
		return a
	}
	a, e := reading.Whole(b, api.ErrKey, read)
	if a.n != 7 || a.s != "ab" || a.b != "\xff\x00" || a.none != 258 || !slices.Equal(a.l, []int{0, 5}) || a.ends != [5]int{2, 6, 8, 11, 16} || e != api.OK {
		t.Error(a, e)
	}
	for cut := range len(b) {
		if a, e := reading.Whole(b[:cut], api.ErrKey, read); a.ends != [5]int{} || a.l != nil || e != api.ErrKey {
			t.Error(cut, a, e)
		}
	}
	if a, e := reading.Whole(append(b, 0), api.ErrEvent, read); a.ends != [5]int{} || a.l != nil || e != api.ErrEvent {
		t.Error("more of them:", a, e)
	}
}

func TestGivesUp(t *testing.T) {
	number := func(most int) func(*reading.Reader) int {
		return func(r *reading.Reader) int { return reading.Number(r, most) }
	}
	text := func(most int) func(*reading.Reader) int {
		return func(r *reading.Reader) int { return len(r.Text(most)) }
	}
	take := func(many int) func(*reading.Reader) int {
		return func(r *reading.Reader) int { return len(r.Take(many)) }
	}
	several := func(most int) func(*reading.Reader) int {
		return func(r *reading.Reader) int { return len(reading.Several(r, most, number(9))) }
	}
	for _, c := range []struct {
		b    string
		read func(*reading.Reader) int
		n    int
		e    api.Errno
	}{
		{"\x01\x07", number(7), 7, api.OK},
		{"\x01\x07", number(6), 0, api.ErrKey},
		{"\x00", number(0), 0, api.OK},
		{"\x02\x00\x07", number(7), 0, api.ErrKey},
		{"\x08\xff\xff\xff\xff\xff\xff\xff\xff", number(math.MaxInt), 0, api.ErrKey},
		{"\x08\x7f\xff\xff\xff\xff\xff\xff\xff", number(math.MaxInt), math.MaxInt, api.OK},
		{"\x01\x03abc", text(3), 3, api.OK},
		{"\x01\x03abc", text(2), 0, api.ErrKey},
		{"\x01\x03ab", text(3), 0, api.ErrKey},
		{"\x08\x7f\xff\xff\xff\xff\xff\xff\xffab", text(math.MaxInt), 0, api.ErrKey},
		{"abc", take(3), 3, api.OK},
		{"abc", take(2), 0, api.ErrKey},
		{"abc", take(4), 0, api.ErrKey},
		{"abc", take(math.MaxInt), 0, api.ErrKey},
		{"", take(0), 0, api.OK},
		{"\x01\x02\x01\x09\x00", several(2), 2, api.OK},
		{"\x01\x02\x01\x0a\x00", several(2), 0, api.ErrKey},
		{"\x01\x02\x01\x09\x00", several(1), 0, api.ErrKey},
		{"\x00", several(0), 0, api.OK},
		{"", func(*reading.Reader) int { return refusal.Told(3, api.ErrWay) }, 0, api.ErrKey}, // what a layer below refuses is none's, too
	} {
		if n, e := reading.Whole([]byte(c.b), api.ErrKey, c.read); n != c.n || e != c.e {
			t.Errorf("%x: %d, %v, not %d, %v", c.b, n, e, c.n, c.e)
		}
	}
}

// Nothing can be laid over what stands behind, neither by who reads nor by who is told.
func TestPiecesHaveNoSpareRoom(t *testing.T) {
	b := []byte("abcd")
	r := reading.Of(b[:3])
	piece := r.Take(2)
	_ = append(piece, 'x')
	if cap(piece) != 2 || !bytes.Equal(b, []byte("abcd")) {
		t.Error(cap(piece), b)
	}
	if n, e := reading.Whole(b[:3], api.ErrKey, func(r *reading.Reader) int { return len(r.Take(4)) }); n != 0 || e != api.ErrKey {
		t.Error("what stands in the room behind:", n, e)
	}
}

func TestWholeLetsOthersPanic(t *testing.T) {
	defer func() {
		if given := recover(); given != "mine" {
			t.Error(given)
		}
	}()
	reading.Whole(nil, api.ErrKey, func(*reading.Reader) int { panic("mine") })
}
