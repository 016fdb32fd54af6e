package event_test

import (
	"encoding/base64"
	stdjson "encoding/json"
	"math/rand"
	"reflect"
	"slices"
	"strings"
	"testing"

	"hustings/api"
	"hustings/event"
	"hustings/json"
)

// id: an event's name, of a number.
func id(n int) string {
	b := make([]byte, 32)
	b[0], b[1] = byte(n), byte(n>>8)
	return "$" + base64.RawURLEncoding.EncodeToString(b)
}

func plain(n int, c byte) string {
	return base64.RawStdEncoding.EncodeToString([]byte(strings.Repeat(string([]byte{c}), n)))
}

func sig(server, key string) api.Sig { return api.Sig{Server: server, Key: key, Sign: plain(64, 0xfb)} }

func message() api.Event {
	return api.Event{
		Room: "!r:a", Sender: "@u:a", Type: "m.room.message",
		Content: json.Map(api.Member{Key: "body", Val: json.Text("hi\n")}, api.Member{Key: "list", Val: json.List(json.Num(1), json.Num(2))}),
		Prev:    []string{id(3), id(2)}, Auth: []string{id(1)}, Depth: 5, Time: 7,
		Hash: plain(32, 0xff), Sigs: []api.Sig{sig("a", "ed25519:1"), sig("a", "ed25519:2"), sig("b", "ed25519:1")},
	}
}

func state() api.Event {
	e := message()
	e.Type, e.State, e.Key = "m.room.topic", true, "k"
	return e
}

func bare() api.Event {
	return api.Event{Room: "!r:a", Sender: "@u:a", Type: "t", Content: json.Map(), Hash: plain(32, 0)}
}

func ids(n int) []string {
	var out []string
	for i := range n {
		out = append(out, id(i))
	}
	return out
}

func deep(n int) api.Value {
	v := json.Map()
	for range n {
		v = json.Map(api.Member{Key: "a", Val: v})
	}
	return v
}

func long(n int) api.Value {
	return json.Map(api.Member{Key: "a", Val: json.Text(strings.Repeat("x", n))})
}

// turned: message, with something turned.
func turned(turn func(e *api.Event)) api.Event {
	e := message()
	turn(&e)
	return e
}

func good() []api.Event {
	return []api.Event{
		message(), state(), bare(),
		turned(func(e *api.Event) { e.Prev, e.Auth = ids(20), ids(10) }),
		turned(func(e *api.Event) { e.Prev = []string{id(1), id(1)} }),
		turned(func(e *api.Event) { e.Sigs = nil }),
		turned(func(e *api.Event) { e.State = true }),
		turned(func(e *api.Event) { e.State, e.Key = true, strings.Repeat("k", 255) }),
		turned(func(e *api.Event) { e.Type = strings.Repeat("t", 255) }),
		turned(func(e *api.Event) { e.Type = "é\x00\"" }),
		turned(func(e *api.Event) { e.Depth, e.Time = api.MaxNum, api.MaxNum }),
		turned(func(e *api.Event) { e.Depth, e.Time = 0, 0 }),
		turned(func(e *api.Event) { e.Content = json.Map() }),
		turned(func(e *api.Event) { e.Content = deep(30) }),
		turned(func(e *api.Event) { e.Sigs = []api.Sig{sig("a", "ed25519:2"), sig("a:1", "ed25519:1")} }),
	}
}

func TestGood(t *testing.T) {
	for i, e := range good() {
		if got := event.Check(e); got != api.OK {
			t.Errorf("Check of good event %d: %d", i, got)
		}
		v := event.Value(e)
		s, err := event.Encode(e)
		if c, _ := json.Canon(v); err != api.OK || s != c {
			t.Fatalf("Encode of good event %d: %q, %d; want %q", i, s, err, c)
		}
		back, err := event.Decode(s)
		if err != api.OK || !event.Same(e, back) || !same(e, back) {
			t.Errorf("good event %d, there and back by text: %+v, %d", i, back, err)
		}
		back, err = event.Of(v)
		if err != api.OK || !event.Same(e, back) || !same(e, back) {
			t.Errorf("good event %d, there and back by value: %+v, %d", i, back, err)
		}
		if again, _ := json.Canon(event.Value(back)); again != s {
			t.Errorf("good event %d: the value of Of of the value is %s", i, again)
		}
	}
}

// same: whether events are the same, empty lists counting like none.
func same(a, b api.Event) bool {
	x, _ := json.Canon(a.Content)
	y, _ := json.Canon(b.Content)
	return slices.Equal(a.Prev, b.Prev) && slices.Equal(a.Auth, b.Auth) && slices.Equal(a.Sigs, b.Sigs) && x == y &&
		a.Room == b.Room && a.Sender == b.Sender && a.Type == b.Type && a.State == b.State && a.Key == b.Key && a.Depth == b.Depth && a.Time == b.Time && a.Hash == b.Hash
}

func TestText(t *testing.T) {
	e := state()
	want := `{"auth_events":["` + id(1) + `"],"content":{"body":"hi\n","list":[1,2]},"depth":5,"hashes":{"sha256":"` + e.Hash + `"},"origin_server_ts":7,"prev_events":["` + id(3) + `","` + id(2) + `"],"room_id":"!r:a","sender":"@u:a","signatures":{"a":{"ed25519:1":"` + e.Sigs[0].Sign + `","ed25519:2":"` + e.Sigs[0].Sign + `"},"b":{"ed25519:1":"` + e.Sigs[0].Sign + `"}},"state_key":"k","type":"m.room.topic"}`
	if s, err := event.Encode(e); s != want || err != api.OK {
		t.Errorf("Encode:\n%s, %d; want\n%s", s, err, want)
	}
	want = `{"auth_events":[],"content":{},"depth":0,"hashes":{"sha256":"` + plain(32, 0) + `"},"origin_server_ts":0,"prev_events":[],"room_id":"!r:a","sender":"@u:a","signatures":{},"type":"t"}`
	if s, err := event.Encode(bare()); s != want || err != api.OK {
		t.Errorf("Encode:\n%s, %d; want\n%s", s, err, want)
	}
	if e, err := event.Decode(" " + strings.ReplaceAll(want, ",", " ,\n") + " "); err != api.OK || !event.Same(e, bare()) {
		t.Errorf("a text that isn't canonical: %d", err)
	}
}

type wrong struct {
	name string
	turn func(e *api.Event)
	err  api.Errno
}

func wrongs() []wrong {
	bad := func(name string, turn func(e *api.Event)) wrong { return wrong{name, turn, api.ErrEvent} }
	return []wrong{
		{"21 Prev", func(e *api.Event) { e.Prev = ids(21) }, api.ErrMany},
		{"11 Auth", func(e *api.Event) { e.Auth = ids(11) }, api.ErrMany},
		{"21 Prev that are none", func(e *api.Event) { e.Prev = make([]string, 21) }, api.ErrMany},
		{"11 Auth and no room", func(e *api.Event) { e.Auth, e.Room = ids(11), "" }, api.ErrMany},
		{"21 Prev and a bad signature", func(e *api.Event) { e.Prev, e.Sigs[0].Sign = ids(21), "" }, api.ErrMany},
		bad("Prev", func(e *api.Event) { e.Prev[1] = "$x" }),
		bad("last Prev", func(e *api.Event) { e.Prev = append(ids(19), "") }),
		bad("Auth", func(e *api.Event) { e.Auth[0] = id(1)[1:] }),
		bad("last Auth", func(e *api.Event) { e.Auth = append(ids(9), "@u:a") }),
		bad("no room", func(e *api.Event) { e.Room = "" }),
		bad("a user as room", func(e *api.Event) { e.Room = "@u:a" }),
		bad("no sender", func(e *api.Event) { e.Sender = "" }),
		bad("a server as sender", func(e *api.Event) { e.Sender = "a" }),
		bad("capital sender", func(e *api.Event) { e.Sender = "@U:a" }),
		bad("no type", func(e *api.Event) { e.Type = "" }),
		bad("long type", func(e *api.Event) { e.Type = strings.Repeat("t", 256) }),
		bad("type no text", func(e *api.Event) { e.Type = "\xff" }),
		bad("a key without state", func(e *api.Event) { e.Key = "k" }),
		bad("long key", func(e *api.Event) { e.State, e.Key = true, strings.Repeat("k", 256) }),
		bad("key no text", func(e *api.Event) { e.State, e.Key = true, "\xff" }),
		bad("null content", func(e *api.Event) { e.Content = api.Value{} }),
		bad("list as content", func(e *api.Event) { e.Content = json.List() }),
		bad("text as content", func(e *api.Event) { e.Content = json.Text("{}") }),
		bad("content that can't be", func(e *api.Event) { e.Content = json.Map(api.Member{Key: "a", Val: json.Num(api.MaxNum + 1)}) }),
		bad("content that falls", func(e *api.Event) { e.Content.Map[0], e.Content.Map[1] = e.Content.Map[1], e.Content.Map[0] }),
		bad("content that is deep", func(e *api.Event) { e.Content = deep(32) }),
		bad("content that is long", func(e *api.Event) { e.Content = long(api.MaxBytes) }),
		bad("depth below 0", func(e *api.Event) { e.Depth = -1 }),
		bad("depth", func(e *api.Event) { e.Depth = api.MaxNum + 1 }),
		bad("time below 0", func(e *api.Event) { e.Time = -1 }),
		bad("time", func(e *api.Event) { e.Time = api.MaxNum + 1 }),
		bad("no hash", func(e *api.Event) { e.Hash = "" }),
		bad("short hash", func(e *api.Event) { e.Hash = plain(31, 1) }),
		bad("long hash", func(e *api.Event) { e.Hash = plain(33, 1) }),
		bad("hash for URLs", func(e *api.Event) { e.Hash = strings.Repeat("_", 42) + "8" }),
		bad("hash with bits behind", func(e *api.Event) { e.Hash = strings.Repeat("A", 42) + "B" }),
		bad("signature's server", func(e *api.Event) { e.Sigs[0].Server = "A" }),
		bad("signature's key", func(e *api.Event) { e.Sigs[2].Key = "ed25519:" }),
		bad("no signature", func(e *api.Event) { e.Sigs[1].Sign = "" }),
		bad("short signature", func(e *api.Event) { e.Sigs[1].Sign = plain(63, 1) }),
		bad("long signature", func(e *api.Event) { e.Sigs[1].Sign = plain(65, 1) }),
		bad("signature for URLs", func(e *api.Event) { e.Sigs[1].Sign = strings.Repeat("-", 84) + "AA" }),
		bad("signature with bits behind", func(e *api.Event) { e.Sigs[1].Sign = strings.Repeat("A", 85) + "B" }),
		bad("servers fall", func(e *api.Event) { e.Sigs[0], e.Sigs[2] = e.Sigs[2], e.Sigs[0] }),
		bad("keys fall", func(e *api.Event) { e.Sigs[0], e.Sigs[1] = e.Sigs[1], e.Sigs[0] }),
		bad("a pair twice", func(e *api.Event) { e.Sigs[1].Key = e.Sigs[0].Key }),
	}
}

func TestWrong(t *testing.T) {
	for _, w := range wrongs() {
		e := turned(w.turn)
		if got := event.Check(e); got != w.err {
			t.Errorf("%s: Check: %d, want %d", w.name, got, w.err)
		}
		if s, err := event.Encode(e); s != "" || err != w.err {
			t.Errorf("%s: Encode: %q, %d", w.name, s, err)
		}
		if event.Same(e, e) || event.Same(e, message()) || event.Same(message(), e) {
			t.Errorf("%s: Same", w.name)
		}
		if got, err := event.Of(event.Value(e)); w.err == api.ErrMany && (err != w.err || !reflect.DeepEqual(got, api.Event{})) {
			t.Errorf("%s: Of: %+v, %d", w.name, got, err)
		}
	}
	event.Value(api.Event{Sigs: []api.Sig{sig("b", "x"), sig("a", "y"), sig("b", "x")}})
}

func TestEncodeLimits(t *testing.T) {
	e := message()
	e.Content = deep(31)
	if s, err := event.Encode(e); s != "" || err != api.ErrDeep || event.Check(e) != api.OK {
		t.Errorf("a content of 32 maps: %d, Check %d", err, event.Check(e))
	}
	e.Content = long(0)
	s, _ := event.Encode(e)
	room := api.MaxBytes - len(s)
	e.Content = long(room)
	if s, err := event.Encode(e); err != api.OK || len(s) != api.MaxBytes {
		t.Errorf("an event of MaxBytes: %d", err)
	}
	if !event.Same(e, e) {
		t.Error("an event of MaxBytes isn't the same")
	}
	e.Content = long(room + 1)
	if s, err := event.Encode(e); s != "" || err != api.ErrLong || event.Check(e) != api.OK || event.Same(e, e) {
		t.Errorf("an event of a byte more: %d", err)
	}
	if _, err := event.Of(event.Value(e)); err != api.ErrEvent {
		t.Errorf("Of of a value without a canonical text: %d", err)
	}
}

func TestSame(t *testing.T) {
	list := good()
	for i, a := range list {
		for j, b := range good() {
			if event.Same(a, b) != (i == j) {
				t.Errorf("Same of %d and %d", i, j)
			}
		}
	}
	for _, turn := range []func(e *api.Event){
		func(e *api.Event) { e.Room = "!s:a" }, func(e *api.Event) { e.Sender = "@v:a" }, func(e *api.Event) { e.Type = "x" },
		func(e *api.Event) { e.Depth = 6 }, func(e *api.Event) { e.Time = 8 }, func(e *api.Event) { e.Hash = plain(32, 3) },
		func(e *api.Event) { e.Sigs[0].Sign = plain(64, 4) }, func(e *api.Event) { e.Prev = e.Prev[:1] },
		func(e *api.Event) { e.Prev[0], e.Prev[1] = e.Prev[1], e.Prev[0] }, func(e *api.Event) { e.Auth[0] = id(9) }, func(e *api.Event) { e.Content = json.Map() },
	} {
		if event.Same(turned(turn), message()) {
			t.Errorf("the same, though it was turned: %+v", turned(turn))
		}
	}
}

// Values that differ from an event's somewhere.
func TestOfWrong(t *testing.T) {
	whole := event.Value(state())
	put := func(key string, v api.Value) api.Value { return json.Put(whole, key, v) }
	one := json.Map(api.Member{Key: "ed25519:1", Val: json.Text(plain(64, 1))})
	var list []api.Value
	for _, m := range whole.Map {
		if m.Key != "state_key" {
			list = append(list, json.Drop(whole, m.Key))
		}
		for _, v := range []api.Value{{}, json.Bool(true), json.Num(1), json.Text("x"), json.List(json.Num(1)), json.Map(api.Member{Key: "x", Val: json.Num(1)})} {
			if !(v.Kind == m.Val.Kind && (m.Key == "content" || m.Key == "depth" || m.Key == "origin_server_ts" || m.Key == "type" || m.Key == "state_key")) {
				list = append(list, put(m.Key, v))
			}
		}
	}
	list = append(list,
		put("unsigned", json.Map()), put("event_id", json.Text(id(1))), put("", json.Num(1)),
		json.Put(json.Drop(whole, "depth"), "dept", json.Num(1)),
		put("hashes", json.Map()), put("hashes", json.Map(api.Member{Key: "sha256", Val: json.Num(1)})),
		put("hashes", json.Put(json.Map(api.Member{Key: "sha256", Val: json.Text(plain(32, 1))}), "sha1", json.Text("x"))),
		put("signatures", json.Map(api.Member{Key: "a", Val: json.Map()})),
		put("signatures", json.Map(api.Member{Key: "a", Val: one}, api.Member{Key: "b", Val: json.Map()})),
		put("signatures", json.Map(api.Member{Key: "a", Val: json.Map(api.Member{Key: "ed25519:1", Val: json.Num(1)})})),
		put("signatures", json.Map(api.Member{Key: "A", Val: one})),
		put("signatures", json.List()),
		put("prev_events", json.List(json.Text(id(1)), json.Num(1))), put("auth_events", json.List(json.List())),
		put("auth_events", json.Text(id(1))),
		put("content", json.List()), put("depth", json.Num(-1)), put("state_key", json.Text(strings.Repeat("k", 256))),
		put("content", json.Map(api.Member{Key: "a", Val: json.Num(api.MaxNum + 1)})),
		put("content", json.Map(api.Member{Key: "a", Val: json.Text("\xff")})),
		api.Value{}, json.List(whole), json.Text("x"), json.Num(1), api.Value{Kind: api.KindList, Map: whole.Map},
		api.Value{Kind: api.KindMap, Map: append(slices.Clone(whole.Map), whole.Map[0])},
	)
	for i, v := range list {
		if e, err := event.Of(v); err != api.ErrEvent || !reflect.DeepEqual(e, api.Event{}) {
			c, _ := json.Canon(v)
			t.Errorf("case %d: Of: %d; %.300s", i, err, c)
		}
	}
	many := []api.Value{}
	for _, s := range ids(21) {
		many = append(many, json.Text(s))
	}
	if _, err := event.Of(put("prev_events", json.List(many...))); err != api.ErrMany {
		t.Errorf("21 prev_events: %d", err)
	}
	if _, err := event.Of(put("auth_events", json.List(many[:11]...))); err != api.ErrMany {
		t.Errorf("11 auth_events: %d", err)
	}
	if _, err := event.Of(json.Put(put("prev_events", json.List(many...)), "unsigned", json.Map())); err != api.ErrEvent {
		t.Errorf("21 prev_events, and a member more: %d", err)
	}
	if e, err := event.Of(json.Drop(whole, "state_key")); err != api.OK || e.State || e.Key != "" {
		t.Errorf("without state_key: %+v, %d", e, err)
	}
	if e, err := event.Of(put("state_key", json.Text(""))); err != api.OK || !e.State || e.Key != "" {
		t.Errorf("with an empty state_key: %+v, %d", e, err)
	}
}

func TestDecodeWrong(t *testing.T) {
	s, _ := event.Encode(state())
	for text, want := range map[string]api.Errno{
		"": api.ErrForm, "{": api.ErrForm, s[1:]: api.ErrForm, s + "x": api.ErrForm, s[:len(s)-1]: api.ErrForm,
		strings.Repeat(" ", api.MaxBytes) + s: api.ErrLong, strings.Repeat("[", 33): api.ErrDeep,
		strings.Replace(s, `"depth":5`, `"depth":5.0`, 1):             api.ErrNumber,
		strings.Replace(s, `"depth":5`, `"depth":5,"depth":5`, 1):     api.ErrTwice,
		strings.Replace(s, `"depth":5`, `"depth":-5`, 1):              api.ErrEvent,
		strings.Replace(s, `"depth":5`, `"depth":"5"`, 1):             api.ErrEvent,
		strings.Replace(s, `"depth":5`, `"depth":5,"unsigned":{}`, 1): api.ErrEvent,
		"{}": api.ErrEvent, "[]": api.ErrEvent, "null": api.ErrEvent, "1": api.ErrEvent,
	} {
		if e, err := event.Decode(text); err != want || !reflect.DeepEqual(e, api.Event{}) {
			t.Errorf("Decode(%.80q): %d, want %d", text, err, want)
		}
	}
}

// A text that was spoilt at one place, or has its members in another order, is the event, or none.
func TestSpoilt(t *testing.T) {
	s, _ := event.Encode(state())
	rnd := rand.New(rand.NewSource(1))
	for range 20000 {
		b := []byte(s)
		b[rnd.Intn(len(b))] = "0a\"\\{}[]:,$"[rnd.Intn(11)]
		e, err := event.Decode(string(b))
		if err == api.OK {
			back, _ := event.Encode(e)
			v, _ := json.Parse(string(b))
			if c, _ := json.Canon(v); c != back {
				t.Fatalf("%s was read as %s", b, back)
			}
		} else if !reflect.DeepEqual(e, api.Event{}) {
			t.Fatal("an event beside an error")
		}
	}
	var m map[string]stdjson.RawMessage
	stdjson.Unmarshal([]byte(s), &m)
	for range 50 {
		var parts []string
		for k, v := range m {
			parts = append(parts, `"`+k+`":`+string(v))
		}
		if e, err := event.Decode("{" + strings.Join(parts, ",") + "}"); err != api.OK || !event.Same(e, state()) {
			t.Fatalf("another order of members: %d", err)
		}
	}
}

func TestMemory(t *testing.T) {
	e := state()
	v := event.Value(e)
	before, _ := json.Canon(v)
	e.Prev[0], e.Auth[0], e.Sigs[0].Sign = "x", "x", "x"
	if c, _ := json.Canon(v); c != before {
		t.Error("a value hangs on what was written into the event's lists later")
	}
	w := event.Value(state())
	f, _ := event.Of(w)
	for i := range w.Map {
		if len(w.Map[i].Val.List) > 0 {
			w.Map[i].Val.List[0] = json.Text("x")
		}
		w.Map[i].Val = api.Value{}
	}
	if !event.Same(f, state()) {
		t.Error("an event hangs on what was written into the value later")
	}
	g := state()
	event.Check(g)
	event.Encode(g)
	event.Same(g, g)
	if !same(g, state()) {
		t.Error("an event that was handed in was changed")
	}
	room := append(make([]string, 0, 9), id(1))
	h := state()
	h.Prev = room
	event.Check(h)
	event.Value(h)
	if room[:2][1] != "" {
		t.Error("spare room was written into")
	}
}
