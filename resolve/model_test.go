package resolve_test

import (
	"slices"
	"sort"

	"hustings/api"
	"hustings/auth"
	"hustings/pick"
)

// model is a book once more, and resolves states as the document says it, name by name.
type model struct {
	names  []string
	events map[string]api.Event
	bad    map[string]bool
}

func newModel() *model { return &model{events: map[string]api.Event{}, bad: map[string]bool{}} }

func (m *model) add(id string, e api.Event, bad bool) {
	m.names = append(m.names, id)
	m.events[id], m.bad[id] = e, bad
}

// chain: all that stands ahead of names by Auth.
func (m *model) chain(ids []string) map[string]bool {
	out := map[string]bool{}
	var walk func(id string)
	walk = func(id string) {
		for _, a := range m.events[id].Auth {
			if !out[a] {
				out[a] = true
				walk(a)
			}
		}
	}
	for _, id := range ids {
		walk(id)
	}
	return out
}

func (m *model) named(id string) []api.Event {
	var out []api.Event
	for _, a := range m.events[id].Auth {
		if !m.bad[a] {
			out = append(out, m.events[a])
		}
	}
	return out
}

func (m *model) takes(id string) bool {
	e := m.events[id]
	switch {
	case !e.State:
		return false
	case e.Type == "m.room.power_levels" || e.Type == "m.room.join_rules":
		return e.Key == ""
	case e.Type != "m.room.member" || e.Key == e.Sender:
		return false
	}
	for _, x := range e.Content.Map {
		if x.Key == "membership" && x.Val.Kind == api.KindText && x.Val.S != "" {
			return x.Val.S == "leave" || x.Val.S == "ban"
		}
	}
	return true
}

func (m *model) check(ids []string, state map[api.Pair]string) {
	for _, id := range ids {
		e := m.events[id]
		if m.bad[id] || !e.State {
			continue
		}
		var list []api.Event
		for _, p := range pick.Needed(e) {
			if own, ok := state[p]; ok {
				list = append(list, m.events[own])
			}
		}
		if auth.Allowed(e, append(list, m.named(id)...)) == api.OK {
			state[api.Pair{Type: e.Type, Key: e.Key}] = id
		}
	}
}

func (m *model) levelsOf(id string) string {
	for _, a := range m.events[id].Auth {
		if e := m.events[a]; e.State && e.Type == "m.room.power_levels" && e.Key == "" {
			return a
		}
	}
	return ""
}

func (m *model) resolve(states [][]api.Slot) []api.Slot {
	if len(states) == 0 {
		return nil
	}
	inAll := func(s api.Slot) bool {
		return !slices.ContainsFunc(states, func(t []api.Slot) bool { return !slices.Contains(t, s) })
	}
	alike, rest, all := map[api.Pair]string{}, map[string]bool{}, true
	counts := map[string]int{}
	for _, state := range states {
		var ids []string
		for _, s := range state {
			ids = append(ids, s.ID)
			if inAll(s) {
				alike[api.Pair{Type: s.Type, Key: s.Key}] = s.ID
			} else {
				rest[s.ID], all = true, false
			}
		}
		for id := range m.chain(ids) {
			counts[id]++
		}
	}
	if all {
		return states[0]
	}
	for id, n := range counts {
		if n < len(states) {
			rest[id] = true
		}
	}
	state := map[api.Pair]string{}
	for p, id := range alike {
		state[p] = id
	}
	first := m.first(rest)
	m.check(first, state)
	m.check(m.others(rest, first, state[api.Pair{Type: "m.room.power_levels"}]), state)
	for p, id := range alike {
		state[p] = id
	}
	return slots(state)
}

func slots(state map[api.Pair]string) []api.Slot {
	var out []api.Slot
	for p, id := range state {
		out = append(out, api.Slot{Type: p.Type, Key: p.Key, ID: id})
	}
	sort.Slice(out, func(i, j int) bool {
		if out[i].Type != out[j].Type {
			return out[i].Type < out[j].Type
		}
		return out[i].Key < out[j].Key
	})
	return out
}

// first: in their order.
func (m *model) first(rest map[string]bool) []string {
	in := map[string]bool{}
	for id := range rest {
		if m.takes(id) {
			in[id] = true
			for a := range m.chain([]string{id}) {
				if rest[a] {
					in[a] = true
				}
			}
		}
	}
	less := func(a, b string) bool {
		x, y := m.events[a], m.events[b]
		p, q := auth.Level(m.named(a), x.Sender), auth.Level(m.named(b), y.Sender)
		if p != q {
			return p > q
		}
		if x.Time != y.Time {
			return x.Time < y.Time
		}
		return a < b
	}
	var out []string
	for len(out) < len(in) {
		best := ""
		for id := range in {
			ahead, free := m.chain([]string{id}), !slices.Contains(out, id)
			for a := range ahead {
				free = free && (!in[a] || slices.Contains(out, a))
			}
			if free && (best == "" || less(id, best)) {
				best = id
			}
		}
		out = append(out, best)
	}
	return out
}

// others: in their order.
func (m *model) others(rest map[string]bool, first []string, levels string) []string {
	line := map[string]int{}
	for id := levels; id != ""; id = m.levelsOf(id) {
		line[id] = len(line)
	}
	place := func(id string) int {
		for ; id != ""; id = m.levelsOf(id) {
			if n, ok := line[id]; ok {
				return n
			}
		}
		return 512
	}
	var out []string
	for id := range rest {
		if !slices.Contains(first, id) {
			out = append(out, id)
		}
	}
	sort.Slice(out, func(i, j int) bool {
		a, b := out[i], out[j]
		if place(a) != place(b) {
			return place(a) > place(b)
		}
		if m.events[a].Time != m.events[b].Time {
			return m.events[a].Time < m.events[b].Time
		}
		return a < b
	})
	return out
}
