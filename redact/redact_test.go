package redact_test

import (
	"encoding/base64"
	"strings"
	"testing"

	"hustings/api"
	"hustings/event"
	"hustings/json"
	"hustings/redact"
)

func parse(t *testing.T, s string) api.Value {
	t.Helper()
	v, err := json.Parse(s)
	if err != api.OK {
		t.Fatalf("%s: %d", s, err)
	}
	return v
}

func canon(v api.Value) string {
	s, _ := json.Canon(v)
	return s
}

const levels = `{"ban":1,"events":{"x":1},"events_default":2,"invite":3,"kick":4,"redact":5,"state_default":6,"users":{"@a:b":7},"users_default":8}`

// keys: all members of contents of which one of the document's types lets something stay.
const all = `{"allow":[{"a":1}],"ban":50,"body":"x","creator":"@a:b","displayname":"Ann","events":{},"events_default":0,"history_visibility":"shared","invite":0,"join_authorised_via_users_server":"@a:b","join_rule":"public","kick":1,"m.federate":false,"membership":"join","notifications":{"room":1},"redact":3,"redacts":"$x","state_default":4,"third_party_invite":{"display_name":"A","signed":{"mxid":"@a:b"}},"topic":"t","users":{"x":null},"users_default":null}`

func TestContent(t *testing.T) {
	for _, c := range []struct{ kind, in, out string }{
		{"m.room.create", all, all},
		{"m.room.create", `{}`, `{}`},
		{"m.room.create", `[1]`, `[1]`},
		{"m.room.create", `null`, `null`},
		{"m.room.member", all, `{"join_authorised_via_users_server":"@a:b","membership":"join","third_party_invite":{"signed":{"mxid":"@a:b"}}}`},
		{"m.room.member", `{"membership":"join","displayname":"Ann"}`, `{"membership":"join"}`},
		{"m.room.member", `{"membership":{"a":[1]},"join_authorised_via_users_server":null}`, `{"join_authorised_via_users_server":null,"membership":{"a":[1]}}`},
		{"m.room.member", `{"third_party_invite":{}}`, `{}`},
		{"m.room.member", `{"third_party_invite":{"sign":1}}`, `{}`},
		{"m.room.member", `{"third_party_invite":"signed"}`, `{}`},
		{"m.room.member", `{"third_party_invite":["signed"]}`, `{}`},
		{"m.room.member", `{"third_party_invite":null}`, `{}`},
		{"m.room.member", `{"signed":1}`, `{}`},
		{"m.room.member", `{"third_party_invite":{"signed":null}}`, `{"third_party_invite":{"signed":null}}`},
		{"m.room.member", `{"third_party_invite":{"a":1,"signed":[1],"z":2}}`, `{"third_party_invite":{"signed":[1]}}`},
		{"m.room.join_rules", all, `{"allow":[{"a":1}],"join_rule":"public"}`},
		{"m.room.power_levels", all, `{"ban":50,"events":{},"events_default":0,"invite":0,"kick":1,"redact":3,"state_default":4,"users":{"x":null},"users_default":null}`},
		{"m.room.power_levels", levels, levels},
		{"m.room.history_visibility", all, `{"history_visibility":"shared"}`},
		{"m.room.redaction", all, `{"redacts":"$x"}`},
		{"m.room.message", all, `{}`},
		{"m.room.topic", all, `{}`},
		{"m.room.third_party_invite", all, `{}`},
		{"m.room.aliases", all, `{}`},
		{"m.room.creat", all, `{}`},
		{"m.room.members", all, `{}`},
		{"M.room.member", all, `{}`},
		{"", all, `{}`},
	} {
		in := parse(t, c.in)
		if got := canon(redact.Content(c.kind, in)); got != c.out {
			t.Errorf("Content(%s, %s) = %s, want %s", c.kind, c.in, got, c.out)
		}
		if canon(in) != canon(parse(t, c.in)) {
			t.Errorf("Content(%s, %s) changed what it was handed", c.kind, c.in)
		}
	}
	for _, kind := range []string{"m.room.member", "m.room.redaction", "x"} {
		for _, v := range []string{`null`, `1`, `"redacts"`, `["membership"]`} {
			if got := canon(redact.Content(kind, parse(t, v))); got != `{}` {
				t.Errorf("Content(%s, %s) = %s", kind, v, got)
			}
		}
	}
}

func plain(n int) string {
	return base64.RawStdEncoding.EncodeToString([]byte(strings.Repeat("x", n)))
}

func sample(t *testing.T, kind, content string) api.Event {
	id := "$" + base64.RawURLEncoding.EncodeToString([]byte(strings.Repeat("y", 32)))
	return api.Event{Room: "!r:a", Sender: "@u:a", Type: kind, State: true, Key: "k", Content: parse(t, content), Prev: []string{id}, Auth: []string{id}, Depth: 3, Time: 4, Hash: plain(32), Sigs: []api.Sig{{Server: "a", Key: "ed25519:1", Sign: plain(64)}}}
}

var kinds = []string{"m.room.create", "m.room.member", "m.room.join_rules", "m.room.power_levels", "m.room.history_visibility", "m.room.redaction", "m.room.message"}

func TestStrip(t *testing.T) {
	for _, kind := range kinds {
		for _, content := range []string{all, `{}`, levels, `{"third_party_invite":{"signed":1},"body":1}`} {
			e := sample(t, kind, content)
			s := redact.Strip(e)
			want := sample(t, kind, content)
			want.Content = redact.Content(kind, want.Content)
			if event.Check(s) != api.OK || !event.Same(s, want) {
				t.Errorf("Strip of %s %s: %+v", kind, content, s)
			}
			if !event.Same(redact.Strip(s), s) || !redact.Is(s) {
				t.Errorf("Strip of Strip of %s %s is another one", kind, content)
			}
			if redact.Is(e) != (canon(want.Content) == canon(e.Content)) {
				t.Errorf("Is of %s %s", kind, content)
			}
			if !event.Same(e, sample(t, kind, content)) {
				t.Errorf("Strip of %s %s changed what it was handed", kind, content)
			}
		}
	}
	e := sample(t, "m.room.message", all)
	e.Content = api.Value{}
	if s := redact.Strip(e); canon(s.Content) != `{}` || redact.Is(e) {
		t.Error("an event that can't be, for want of a content")
	}
	e = sample(t, "m.room.message", `{}`)
	e.Hash = ""
	if redact.Is(e) {
		t.Error("an event that can't be is stripped")
	}
	redact.Is(api.Event{})
}

func TestMemory(t *testing.T) {
	for _, kind := range kinds {
		e := sample(t, kind, all)
		e.Prev = append(make([]string, 0, 5), e.Prev...)
		redact.Strip(e)
		redact.Is(e)
		redact.Content(kind, e.Content)
		if !event.Same(e, sample(t, kind, all)) {
			t.Errorf("%s: the event was changed", kind)
		}
		if e.Prev[:2][1] != "" {
			t.Errorf("%s: spare room was written into", kind)
		}
	}
	bad := api.Value{Kind: api.KindMap, Map: []api.Member{{Key: "z"}, {Key: "membership"}, {Key: "a"}}}
	for _, kind := range kinds { // nothing is promised, but that it ends
		redact.Content(kind, bad)
	}
}
