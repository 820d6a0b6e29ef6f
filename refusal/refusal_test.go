package refusal_test

import (
	"errors"
	"fmt"
	"testing"

	"swingbridge/api"
	"swingbridge/refusal"
)

func TestErrno(t *testing.T) {
	err := refusal.Of("a thing", api.ErrKey)
	if !errors.Is(err, api.ErrKey) || errors.Is(err, api.ErrArg) || err.Error() != "a thing: error 150" {
		t.Error(err)
	}
	for _, c := range []struct {
		err error
		e   api.Errno
	}{
		{nil, api.OK}, {err, api.ErrKey}, {fmt.Errorf("around: %w", err), api.ErrKey}, {api.ErrLong, api.ErrLong}, {errors.New("of no number"), api.OK},
	} {
		if e := refusal.Errno(c.err); e != c.e {
			t.Error(c.err, e)
		}
	}
}

func TestAttempt(t *testing.T) {
	for i, c := range []struct {
		tell  func() string
		thing string
		e     api.Errno
	}{
		{func() string { return "a thing" }, "a thing", api.OK},
		{func() string { refusal.GiveUp("it", api.ErrWay); return "a thing" }, "", api.ErrWay},
		{func() string { refusal.Grant("it", api.OK); return "a thing" }, "a thing", api.OK},
		{func() string { refusal.Grant("it", api.ErrNull); return "a thing" }, "", api.ErrNull},
		{func() string { return refusal.Told("a thing", api.OK) }, "a thing", api.OK},
		{func() string { return refusal.Told("a thing", api.ErrArg) }, "", api.ErrArg},
		{func() string { // one within another
			_, e := refusal.Attempt(func() int { return refusal.Told(1, api.ErrLong) })
			return fmt.Sprint(int(e))
		}, "3", api.OK},
		{func() string {
			s, e := refusal.Attempt(func() string { return "a thing" })
			return refusal.Told(s+" then", e)
		}, "a thing then", api.OK},
	} {
		if thing, e := refusal.Attempt(c.tell); thing != c.thing || e != c.e {
			t.Errorf("%d: %q, %v", i, thing, e)
		}
	}
}

// What others panic with goes on, though it wraps a number.
func TestAttemptLetsOthersPanic(t *testing.T) {
	for _, thrown := range []any{"mine", api.ErrKey, refusal.Errno, fmt.Errorf("mine: %w", api.ErrKey)} {
		func() {
			defer func() {
				if given := recover(); fmt.Sprint(given) != fmt.Sprint(thrown) {
					t.Error(given)
				}
			}()
			refusal.Attempt(func() int { panic(thrown) })
		}()
	}
	defer func() {
		if recover() == nil {
			t.Error("a place that is not there was read")
		}
	}()
	refusal.Attempt(func() int { return []int{}[len(t.Name())] })
}
