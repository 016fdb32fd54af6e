package store

import (
	"hustings/api"
	"hustings/event"
	"hustings/json"
	"hustings/pick"
)

// record is what comes into a room, and how.
type record struct {
	kind  int
	event api.Event
	state []api.Slot
}

// text: its canonical text; layer 9's Canon's errors.
func (r record) text() (string, api.Errno) {
	var slots []api.Value
	for _, s := range r.state {
		slots = append(slots, json.List(json.Text(s.Type), json.Text(s.Key), json.Text(s.ID)))
	}
	return json.Canon(json.List(json.Num(r.kind), event.Value(r.event), json.List(slots...)))
}

// read: the record of a text; false: it is none's.
func read(text string) (record, bool) {
	v, err := json.Parse(text)
	if err != api.OK || len(v.List) != 3 {
		return record{}, false
	}
	e, err := event.Of(v.List[1])
	if err != api.OK {
		return record{}, false
	}
	r := record{kind: v.List[0].N, event: e, state: slotsOf(v.List[2])}
	again, err := r.text() // whatever was read wrongly above is another text now
	if err != api.OK || again != text {
		return record{}, false
	}
	return r, r.can()
}

func slotsOf(v api.Value) []api.Slot {
	var out []api.Slot
	for _, s := range v.List {
		if len(s.List) == 3 {
			out = append(out, api.Slot{Type: s.List[0].S, Key: s.List[1].S, ID: s.List[2].S})
		}
	}
	return out
}

// can: whether it is of a kind that there is, with a state that goes with it.
func (r record) can() bool {
	switch r.kind {
	case take, keep:
		return len(r.state) == 0
	case takeAt:
		return pick.Good(r.state)
	}
	return false
}
