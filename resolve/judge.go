package resolve

import (
	"cmp"
	"slices"
	"strings"

	"hustings/api"
	"hustings/auth"
	"hustings/pick"
)

const (
	member = "m.room.member"
	levels = "m.room.power_levels"
	rules  = "m.room.join_rules"
)

// takes: whether an event takes something from somebody.
func takes(e api.Event) bool {
	if !e.State {
		return false
	}
	if e.Type == member {
		was := auth.Member([]api.Event{e}, e.Key)
		return e.Key != e.Sender && (was == "leave" || was == "ban")
	}
	pair := pairOf(e)
	return pair == api.Pair{Type: levels} || pair == api.Pair{Type: rules}
}

// named: the events of an event's Auth that aren't bad.
func (b *Book) named(e api.Event) []api.Event {
	var out []api.Event
	for _, id := range e.Auth {
		if !b.Bad(id) {
			out = append(out, b.events[id])
		}
	}
	return out
}

// rank: by what those that take something are ordered: the mightiest first.
func (b *Book) rank(id string) api.Rank {
	e := b.events[id]
	return api.Rank{A: -auth.Level(b.named(e), e.Sender), B: e.Time, S: id}
}

// checked: a state with those of some names that it allows, one by one.
func (b *Book) checked(ids []string, state []api.Slot) []api.Slot {
	for _, id := range ids {
		e := b.events[id]
		if b.Bad(id) || !e.State {
			continue
		}
		var by []api.Event
		for _, own := range pick.Select(e, state) {
			by = append(by, b.events[own])
		}
		by = append(by, b.named(e)...) // behind the state's: of two of one pair the first one counts
		if auth.Allowed(e, by) == api.OK {
			state = pick.Put(state, api.Slot{Type: e.Type, Key: e.Key, ID: id})
		}
	}
	return state
}

// levels: the name of an event's levels; false: it has none.
func (b *Book) levels(id string) (string, bool) {
	for _, a := range b.events[id].Auth {
		if e := b.events[a]; e.State && pairOf(e) == (api.Pair{Type: levels}) {
			return a, true
		}
	}
	return "", false
}

// mainline: the places of a state's levels, their levels, and so on.
func (b *Book) mainline(state []api.Slot) map[string]int {
	places := map[string]int{}
	id, ok := pick.Get(state, api.Pair{Type: levels})
	for ok {
		places[id] = len(places)
		id, ok = b.levels(id)
	}
	return places
}

// place: an event's place beside a mainline.
func (b *Book) place(id string, places map[string]int) int {
	for ok := true; ok; id, ok = b.levels(id) {
		if n, there := places[id]; there {
			return n
		}
	}
	return api.MaxEvents
}

// byMainline sorts names: what hangs on older levels first.
func (b *Book) byMainline(ids []string, state []api.Slot) {
	line, places := b.mainline(state), map[string]int{}
	for _, id := range ids {
		places[id] = b.place(id, line)
	}
	slices.SortFunc(ids, func(x, y string) int {
		return cmp.Or(cmp.Compare(places[y], places[x]), cmp.Compare(b.events[x].Time, b.events[y].Time), strings.Compare(x, y))
	})
}
