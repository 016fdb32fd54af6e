package event

import (
	"hustings/api"
	"hustings/json"
)

// taker takes members out of maps; the first fault is kept, so that it is asked for but once, at the end.
type taker struct{ fault bool }

func (t *taker) hold(ok bool) { t.fault = t.fault || !ok }

// of: a value that must be of a kind.
func (t *taker) of(v api.Value, kind int) api.Value {
	t.hold(v.Kind == kind)
	return v
}

// member: a map's member, which must be there, and of a kind.
func (t *taker) member(v api.Value, key string, kind int) api.Value {
	m, ok := json.Get(v, key)
	t.hold(ok)
	return t.of(m, kind)
}

func (t *taker) text(v api.Value, key string) string { return t.member(v, key, api.KindText).S }

func (t *taker) number(v api.Value, key string) int { return t.member(v, key, api.KindNum).N }

func (t *taker) texts(v api.Value, key string) []string {
	var out []string
	for _, x := range t.member(v, key, api.KindList).List {
		out = append(out, t.of(x, api.KindText).S)
	}
	return out
}

func (t *taker) hash(v api.Value) string {
	hashes := t.member(v, "hashes", api.KindMap)
	t.hold(len(hashes.Map) == 1)
	return t.text(hashes, "sha256")
}

func (t *taker) sigs(v api.Value) []api.Sig {
	var out []api.Sig
	for _, server := range t.member(v, "signatures", api.KindMap).Map {
		keys := t.of(server.Val, api.KindMap).Map
		t.hold(len(keys) > 0)
		for _, key := range keys {
			out = append(out, api.Sig{Server: server.Key, Key: key.Key, Sign: t.of(key.Val, api.KindText).S})
		}
	}
	return out
}

// taken: the event that a map tells; false: it tells none, or more.
func taken(v api.Value) (api.Event, bool) {
	t := &taker{}
	e := api.Event{
		Room:    t.text(v, "room_id"),
		Sender:  t.text(v, "sender"),
		Type:    t.text(v, "type"),
		Content: t.member(v, "content", api.KindMap),
		Prev:    t.texts(v, "prev_events"),
		Auth:    t.texts(v, "auth_events"),
		Depth:   t.number(v, "depth"),
		Time:    t.number(v, "origin_server_ts"),
		Hash:    t.hash(v),
		Sigs:    t.sigs(v),
	}
	members := 10
	if _, e.State = json.Get(v, "state_key"); e.State {
		e.Key = t.text(v, "state_key")
		members++
	}
	t.hold(len(v.Map) == members)
	return e, !t.fault
}
