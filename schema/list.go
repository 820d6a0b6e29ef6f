package schema

import (
	"slices"

	"swingbridge/api"
	"swingbridge/refusal"
)

// pick picks the things at these places, in this order.
func pick[T any](l []T, at ...int) ([]T, error) {
	picked := make([]T, len(at))
	for i, place := range at {
		if place < 0 || place >= len(l) {
			return nil, refusal.Of("a place that is not there", api.ErrRange)
		}
		picked[i] = l[place]
	}
	return picked, nil
}

func same[T comparable](a, b T) bool { return a == b }

// lists makes of what compares things what compares lists of them, so that lists of lists are compared by it, too.
func lists[T any](same func(a, b T) bool) func(a, b []T) bool {
	return func(a, b []T) bool { return slices.EqualFunc(a, b, same) }
}
