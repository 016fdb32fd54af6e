// Package fresh makes copies that share no memory with what they are of: what a call answers must not hang on what its caller writes into an argument later.
package fresh

import (
	"slices"

	"hustings/api"
)

// A value that has itself as a part has no end, so there is one here: far beyond what any text can tell.
const (
	maxNest  = 1 << 16
	maxParts = 1 << 20
)

// copier is a copy under way, and how many parts it may have yet.
type copier struct{ left int }

// Value: the same value in new memory.
func Value(v api.Value) api.Value {
	c := &copier{maxParts}
	return c.value(v, 0)
}

func (c *copier) value(v api.Value, within int) api.Value {
	c.left -= len(v.List) + len(v.Map)
	if c.left < 0 || within == maxNest {
		return v
	}
	v.List = slices.Clone(v.List)
	for i, part := range v.List {
		v.List[i] = c.value(part, within+1)
	}
	v.Map = slices.Clone(v.Map)
	for i, m := range v.Map {
		v.Map[i].Val = c.value(m.Val, within+1)
	}
	return v
}

// Event: the same event in new memory.
func Event(e api.Event) api.Event {
	e.Content = Value(e.Content)
	e.Prev = slices.Clone(e.Prev)
	e.Auth = slices.Clone(e.Auth)
	e.Sigs = slices.Clone(e.Sigs)
	return e
}
