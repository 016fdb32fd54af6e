// Package fresh makes copies that share no memory with what they are of: what a call answers must not hang on what its caller writes into an argument later.
package fresh

import (
	"slices"

	"hustings/api"
)

// maxNest is how deep parts are copied: a value that has itself as a part would have no end.
const maxNest = 1 << 16

// Value: the same value in new memory.
func Value(v api.Value) api.Value { return value(v, maxNest) }

func value(v api.Value, left int) api.Value {
	if left == 0 {
		return v
	}
	v.List = slices.Clone(v.List)
	for i, part := range v.List {
		v.List[i] = value(part, left-1)
	}
	v.Map = slices.Clone(v.Map)
	for i, m := range v.Map {
		v.Map[i].Val = value(m.Val, left-1)
	}
	return v
}

// Event: the same event in new memory.
func Event(e api.Event) api.Event {
	e.Content = Value(e.Content)
	e.Prev = slices.Clone(e.Prev)
	e.Auth = slices.Clone(e.Auth)
	e.Sigs = slices.Clone(e.Sigs)
	return e
}
