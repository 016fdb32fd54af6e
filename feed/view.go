package feed

import (
	"cmp"
	"slices"

	"hustings/api"
	"hustings/auth"
	"hustings/ident"
	"hustings/json"
	"hustings/power"
	"hustings/redact"
)

// Sync: the names that came behind a token, and the token behind them; ErrNil, ErrArg.
func (f *Feed) Sync(since int) ([]string, int, api.Errno) {
	if f == nil {
		return nil, 0, api.ErrNil
	}
	stream := f.room().Stream()
	if since < 0 || since > len(stream) {
		return nil, 0, api.ErrArg
	}
	return stream[since:], len(stream), api.OK
}

// placed is an accepted event's name, and its place.
type placed struct {
	id    string
	place api.Rank
}

func compare(a, b api.Rank) int { return cmp.Or(cmp.Compare(a.A, b.A), cmp.Compare(a.B, b.B)) }

// Messages: so many names that stand below a token, the last first, and the token of the last one of them; false: none stands there.
func (f *Feed) Messages(below api.Rank, n int) ([]string, api.Rank, bool) {
	var list []placed
	for i, id := range f.room().Stream() {
		e, _ := f.room().Event(id)
		if place := (api.Rank{A: e.Depth, B: i}); compare(place, below) < 0 {
			list = append(list, placed{id, place})
		}
	}
	list = lastOf(list, n)
	if len(list) == 0 {
		return nil, api.Rank{}, false
	}
	var ids []string
	for _, p := range list {
		ids = append(ids, p.id)
	}
	return ids, list[len(list)-1].place, true
}

// lastOf: the n last ones, the last first.
func lastOf(list []placed, n int) []placed {
	slices.SortFunc(list, func(a, b placed) int { return compare(b.place, a.place) })
	return list[:max(0, min(n, len(list)))]
}

// Members: users by their names, and how they stand to the room now.
func (f *Feed) Members() []api.Member {
	var out []api.Member
	for _, e := range f.events(f.room().Current()) {
		if e.Type == "m.room.member" {
			out = append(out, api.Member{Key: e.Key, Val: json.Text(auth.Member([]api.Event{e}, e.Key))})
		}
	}
	return out
}

// View: an accepted event as it is shown; false: it isn't.
func (f *Feed) View(id string) (api.Event, bool) {
	if f.room().Verdict(id) != api.Accepted {
		return api.Event{}, false
	}
	e, _ := f.room().Event(id)
	for _, other := range f.room().Stream() {
		if f.removes(other, id, e) {
			return redact.Strip(e), true
		}
	}
	return e, true
}

// removes: whether an accepted event takes away the content of another one.
func (f *Feed) removes(by, id string, e api.Event) bool {
	r, _ := f.room().Event(by)
	which, _ := json.Get(r.Content, "redacts")
	if r.Type != "m.room.redaction" || which.Kind != api.KindText || which.S != id {
		return false
	}
	if ident.Domain(r.Sender) == ident.Domain(e.Sender) {
		return true
	}
	before, _ := f.room().Before(by)
	state := f.events(before)
	levels, _ := auth.Find(state, "m.room.power_levels", "")
	return auth.Level(state, r.Sender) >= power.Level(levels.Content, "redact")
}
