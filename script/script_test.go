package script_test

import (
	"fmt"
	"math/rand"
	"slices"
	"strings"
	"testing"

	"hustings/api"
	"hustings/event"
	"hustings/json"
	"hustings/script"
	"hustings/world"
)

func parse(s string) api.Value {
	v, err := json.Parse(s)
	if err != api.OK {
		panic(s)
	}
	return v
}

func canon(v api.Value) string {
	s, err := json.Canon(v)
	if err != api.OK {
		panic(err)
	}
	return s
}

// run: the lines that a script says.
func run(t *testing.T, lines ...string) []string {
	t.Helper()
	out, line, err := script.Run(strings.Join(lines, "\n"))
	if err != api.OK || line != 0 {
		t.Fatalf("Run: %d in line %d", err, line)
	}
	if out == "" {
		return nil
	}
	said := strings.Split(strings.TrimSuffix(out, "\n"), "\n")
	if !strings.HasSuffix(out, "\n") || len(said) != len(slices.DeleteFunc(slices.Clone(lines), func(s string) bool { return s == "" })) {
		t.Fatalf("said: %q", out)
	}
	for _, s := range said {
		if v, err := json.Parse(s); err != api.OK || v.Kind != api.KindMap || canon(v) != s {
			t.Errorf("a line that is no canonical map: %s", s)
		}
	}
	return said
}

func want(t *testing.T, what string, got []string, lines ...string) {
	t.Helper()
	if !slices.Equal(got, lines) {
		t.Errorf("%s:\n%s\nwant\n%s", what, strings.Join(got, "\n"), strings.Join(lines, "\n"))
	}
}

const begin = `{"do":"servers","n":2,"room":"!r:s0"}`

const (
	create = `{"do":"send","at":0,"sender":"@u:s0","type":"m.room.create","key":"","content":{}}`
	join   = `{"do":"send","at":0,"sender":"@u:s0","type":"m.room.member","key":"@u:s0","content":{"membership":"join"}}`
	public = `{"do":"send","at":0,"sender":"@u:s0","type":"m.room.join_rules","key":"","content":{"join_rule":"public"}}`
	word   = `{"do":"send","at":0,"sender":"@u:s0","type":"m.room.message","content":{"body":"hi\n"}}`
)

// draftOf: what a line that sends sends.
func draftOf(line string) api.Draft {
	v := parse(line)
	text := func(key string) string {
		m, _ := json.Get(v, key)
		return m.S
	}
	_, state := json.Get(v, "key")
	content, _ := json.Get(v, "content")
	return api.Draft{Sender: text("sender"), Type: text("type"), State: state, Key: text("key"), Content: content}
}

// made: the world that lines of sending make, and what they say.
func made(t *testing.T, lines ...string) (*world.World, []string) {
	t.Helper()
	w, _ := world.New(2, "!r:s0")
	var said []string
	for _, line := range lines {
		id, err := w.Send(0, draftOf(line))
		if err != api.OK {
			t.Fatalf("Send: %d", err)
		}
		said = append(said, canon(json.Map(api.Member{Key: "id", Val: json.Text(id)})))
	}
	return w, said
}

func texts(list []string) api.Value {
	var vals []api.Value
	for _, s := range list {
		vals = append(vals, json.Text(s))
	}
	return json.List(vals...)
}

// said: a line that is said, of keys and values.
func said(parts ...any) string {
	v := json.Map()
	for i := 0; i < len(parts); i += 2 {
		switch x := parts[i+1].(type) {
		case int:
			v = json.Put(v, parts[i].(string), json.Num(x))
		case []string:
			v = json.Put(v, parts[i].(string), texts(x))
		case api.Value:
			v = json.Put(v, parts[i].(string), x)
		}
	}
	return canon(v)
}

const ok = `{"ok":true}`

func TestExamples(t *testing.T) {
	want(t, "flight", run(t, `{"do":"flight"}`), `{"flight":0}`)
	want(t, "tick", run(t, `{"do":"tick","at":0}`), `{"error":2}`)
	if out, line, err := script.Run(`{"do":"tick"}`); out != "" || line != 1 || err != api.ErrLine {
		t.Errorf("%q, %d, %d", out, line, err)
	}
	want(t, "nothing", run(t, ""))
	want(t, "lines without bytes", run(t, "", "", `{"do":"flight"}`, "", ""), `{"flight":0}`)
}

func TestNilWorld(t *testing.T) {
	for line, says := range map[string]string{
		create: `{"error":2}`, `{"do":"deliver","k":0}`: `{"error":1}`, `{"do":"lose","k":0}`: `{"error":1}`, `{"do":"double","k":0}`: `{"error":1}`,
		`{"do":"tick","at":0}`: `{"error":2}`, `{"do":"start","at":0}`: `{"error":2}`, `{"do":"crash","at":0,"keep":0}`: `{"error":2}`, `{"do":"arm","at":0,"n":1,"keep":0}`: `{"error":2}`,
		`{"do":"put","from":"a","to":"b","kind":1,"texts":[],"ids":[]}`: ok, `{"do":"round"}`: ok, `{"do":"flight"}`: `{"flight":0}`,
		`{"do":"sync","at":0,"since":0}`: `{"error":1}`, `{"do":"messages","at":0,"depth":9,"stream":0,"n":5}`: `{"error":1}`, `{"do":"members","at":0}`: `{"error":1}`,
		`{"do":"state","at":0,"id":"$x"}`: `{"error":1}`, `{"do":"view","at":0,"id":"$x"}`: `{"error":1}`, `{"do":"show","at":0}`: `{"error":1}`,
	} {
		want(t, line, run(t, line, `{"do":"flight"}`), says, `{"flight":0}`)
	}
}

func TestServers(t *testing.T) {
	w, ids := made(t, create)
	id := w.Peer(0).Room().Heads()
	show := `{"do":"show","at":0}`
	want(t, "servers", run(t, begin, show, create, `{"do":"servers","n":0,"room":"!r:s0"}`, `{"do":"servers","n":9,"room":"!r:s0"}`, `{"do":"servers","n":2,"room":"r"}`, show, `{"do":"servers","n":1,"room":"!s:s0"}`, show, `{"do":"show","at":1}`),
		ok, said("heads", []string{}, "len", 0, "waits", []string{}), ids[0], `{"error":1}`, `{"error":1}`, `{"error":1}`, said("heads", id, "len", 1, "waits", []string{}),
		ok, said("heads", []string{}, "len", 0, "waits", []string{}), `{"error":1}`)
}

func TestSend(t *testing.T) {
	_, ids := made(t, create, join, public, word)
	got := run(t, begin, create, join, public, word,
		`{"do":"send","at":2,"sender":"@u:s0","type":"m.room.message","content":{}}`,
		`{"do":"send","at":-1,"sender":"@u:s0","type":"m.room.message","content":{}}`,
		`{"do":"send","at":1,"sender":"@u:s0","type":"m.room.message","content":{}}`,
		`{"do":"send","at":0,"sender":"@v:s0","type":"m.room.message","content":{}}`,
		`{"do":"send","at":0,"sender":"@u:s0","type":"","content":{}}`,
		`{"do":"flight"}`)
	want(t, "send", got, ok, ids[0], ids[1], ids[2], ids[3], `{"error":1}`, `{"error":1}`, `{"error":1}`, `{"error":30}`, `{"error":21}`, `{"flight":4}`)
	// With a key, be it empty, it is a state event; without one it isn't.
	keyed := `{"do":"send","at":0,"sender":"@u:s0","type":"t","key":"","content":{}}`
	plain := `{"do":"send","at":0,"sender":"@u:s0","type":"t","content":{}}`
	_, ids = made(t, create, join, keyed)
	_, other := made(t, create, join, plain)
	if a, b := run(t, begin, create, join, keyed)[3], run(t, begin, create, join, plain)[3]; a != ids[2] || b != other[2] || a == b {
		t.Errorf("a key: %s, %s", a, b)
	}
}

func TestPosts(t *testing.T) {
	w, ids := made(t, create, join)
	room := w.Peer(0).Room()
	var list []string
	for _, id := range room.Stream() {
		e, _ := room.Event(id)
		s, _ := event.Encode(e)
		list = append(list, s)
	}
	show := func(heads []string, n int, waits []string) string {
		return said("heads", heads, "len", n, "waits", waits)
	}
	stream := room.Stream()
	put := canon(json.Map(api.Member{Key: "do", Val: json.Text("put")}, api.Member{Key: "from", Val: json.Text("s0")}, api.Member{Key: "to", Val: json.Text("s1")}, api.Member{Key: "kind", Val: json.Num(1)}, api.Member{Key: "texts", Val: texts(list)}, api.Member{Key: "ids", Val: json.List()}))
	got := run(t, begin, create, join, `{"do":"deliver","k":1}`, `{"do":"show","at":1}`, `{"do":"lose","k":0}`, `{"do":"flight"}`, `{"do":"double","k":0}`, `{"do":"flight"}`, `{"do":"deliver","k":2}`, `{"do":"lose","k":-1}`, `{"do":"double","k":2}`,
		put, `{"do":"deliver","k":2}`, `{"do":"show","at":1}`, `{"do":"round"}`, `{"do":"flight"}`, `{"do":"tick","at":0}`, `{"do":"flight"}`, `{"do":"tick","at":5}`,
		`{"do":"put","from":"s0","to":"s9","kind":-7,"texts":["x"],"ids":["y"]}`, `{"do":"flight"}`)
	want(t, "posts", got[:16], ok, ids[0], ids[1], ok, show(nil, 0, stream[1:]), ok, `{"flight":1}`, ok, `{"flight":2}`, `{"error":1}`, `{"error":1}`, `{"error":1}`,
		ok, ok, show(stream[1:], 2, nil), ok)
	want(t, "put of anything", got[19:21], `{"error":1}`, ok)
	// A put is heard as it was put: ids of what is there.
	got = run(t, begin, create, `{"do":"lose","k":0}`, `{"do":"tick","at":0}`, `{"do":"flight"}`, `{"do":"lose","k":0}`,
		fmt.Sprintf(`{"do":"put","from":"s1","to":"s0","kind":4,"texts":[],"ids":["%s"]}`, stream[0]), `{"do":"deliver","k":0}`, `{"do":"tick","at":0}`, `{"do":"flight"}`,
		`{"do":"put","from":"s0","to":"s0","kind":4,"texts":[],"ids":[]}`, `{"do":"deliver","k":0}`)
	want(t, "what is told to be there", got, ok, ids[0], ok, ok, `{"flight":1}`, ok, ok, ok, ok, `{"flight":0}`, ok, `{"error":1}`)
}

func TestPower(t *testing.T) {
	_, ids := made(t, create)
	got := run(t, begin, create, `{"do":"crash","at":0,"keep":0}`, join, `{"do":"start","at":0}`, `{"do":"arm","at":0,"n":2,"keep":5}`, join, `{"do":"start","at":0}`, `{"do":"sync","at":0,"since":0}`,
		`{"do":"crash","at":2,"keep":0}`, `{"do":"arm","at":-1,"n":2,"keep":5}`, `{"do":"start","at":2}`, `{"do":"crash","at":1,"keep":-1}`, `{"do":"deliver","k":0}`)
	want(t, "power", got, ok, ids[0], ok, `{"error":50}`, ok, ok, `{"error":50}`, ok, strings.Replace(strings.Replace(ids[0], `"id":`, `"ids":[`, 1), "}", `],"next":1}`, 1), `{"error":1}`, `{"error":1}`, `{"error":1}`, ok, `{"error":50}`)
}

// So much of what wasn't synced stays as arm says: the whole line, and the event is there behind it, or less.
func TestArmKeep(t *testing.T) {
	_, ids := made(t, create, join)
	for keep, n := range map[int]int{0: 1, 100: 1, 100000: 2} {
		got := run(t, begin, create, fmt.Sprintf(`{"do":"arm","at":0,"n":2,"keep":%d}`, keep), join, `{"do":"start","at":0}`, `{"do":"sync","at":0,"since":0}`)
		if v := parse(got[5]); got[1] != ids[0] || got[3] != `{"error":50}` || !strings.Contains(got[5], fmt.Sprintf(`"next":%d`, n)) || len(v.Map) != 2 {
			t.Errorf("kept %d: %q", keep, got)
		}
	}
}

// round does what the world's Round does.
func TestRound(t *testing.T) {
	w, ids := made(t, create, join)
	lines, wants := []string{begin, create, join}, append([]string{ok}, ids...)
	for range 4 {
		w.Round()
		r := w.Peer(1).Room()
		lines = append(lines, `{"do":"round"}`, `{"do":"flight"}`, `{"do":"show","at":1}`)
		wants = append(wants, ok, said("flight", w.Flight()), said("heads", r.Heads(), "len", r.Len(), "waits", []string{}))
	}
	want(t, "rounds", run(t, lines...), wants...)
	if w.Peer(1).Room().Len() != 2 {
		t.Error("the test shows nothing")
	}
}

func TestAsks(t *testing.T) {
	lines := []string{create, join, public, word, `{"do":"send","at":0,"sender":"@u:s0","type":"m.room.member","key":"@v:s1","content":{"membership":"ban"}}`}
	w, ids := made(t, lines...)
	f, r := w.Peer(0).Feed(), w.Peer(0).Room()
	stream := r.Stream()
	message, _ := f.View(stream[3])
	before, _ := r.Before(stream[3])
	var slots []api.Value
	for _, s := range before {
		slots = append(slots, texts([]string{s.Type, s.Key, s.ID}))
	}
	got := run(t, append(append([]string{begin}, lines...),
		`{"do":"sync","at":0,"since":3}`, `{"do":"sync","at":0,"since":5}`, `{"do":"sync","at":0,"since":6}`, `{"do":"sync","at":0,"since":-1}`, `{"do":"sync","at":2,"since":0}`,
		`{"do":"messages","at":0,"depth":3,"stream":3,"n":2}`, `{"do":"messages","at":0,"depth":3,"stream":4,"n":1}`, `{"do":"messages","at":0,"depth":0,"stream":0,"n":5}`, `{"do":"messages","at":0,"depth":9,"stream":0,"n":0}`, `{"do":"messages","at":5,"depth":9,"stream":0,"n":0}`,
		`{"do":"members","at":0}`, `{"do":"members","at":1}`, `{"do":"members","at":2}`,
		fmt.Sprintf(`{"do":"state","at":0,"id":"%s"}`, stream[3]), fmt.Sprintf(`{"do":"state","at":0,"id":"%s"}`, stream[0]), `{"do":"state","at":0,"id":"$x"}`, `{"do":"state","at":2,"id":"$x"}`,
		fmt.Sprintf(`{"do":"view","at":0,"id":"%s"}`, stream[3]), fmt.Sprintf(`{"do":"view","at":1,"id":"%s"}`, stream[3]), `{"do":"view","at":0,"id":""}`, `{"do":"view","at":2,"id":""}`,
		`{"do":"show","at":0}`, `{"do":"show","at":1}`, `{"do":"show","at":2}`)...)
	want(t, "asks", got, append(append([]string{ok}, ids...),
		said("ids", stream[3:], "next", 5), said("ids", []string{}, "next", 5), `{"error":1}`, `{"error":1}`, `{"error":1}`,
		said("ids", []string{stream[2], stream[1]}, "depth", 1, "stream", 1), said("ids", stream[3:4], "depth", 3, "stream", 3), said("ids", []string{}, "depth", 0, "stream", 0), said("ids", []string{}, "depth", 0, "stream", 0), `{"error":1}`,
		`{"members":{"@u:s0":"join","@v:s1":"ban"}}`, `{"members":{}}`, `{"error":1}`,
		said("state", json.List(slots...)), `{"state":[]}`, `{"error":40}`, `{"error":1}`,
		said("event", event.Value(message)), `{"error":40}`, `{"error":40}`, `{"error":1}`,
		said("heads", stream[4:], "len", 5, "waits", []string{}), said("heads", []string{}, "len", 0, "waits", []string{}), `{"error":1}`)...)
}

func nested(n int) string { return strings.Repeat(`{"a":`, n) + "{}" + strings.Repeat("}", n) }

// Answers near the limits that have canonical texts yet.
func TestDeepAndMany(t *testing.T) {
	deep := strings.Replace(word, `{"body":"hi\n"}`, nested(29), 1)
	fine := strings.Replace(word, `{"body":"hi\n"}`, nested(28), 1)
	w, ids := made(t, create, join, fine, deep)
	stream := w.Peer(0).Room().Stream()
	view := func(id string) string { return fmt.Sprintf(`{"do":"view","at":0,"id":"%s"}`, id) }
	got := run(t, begin, create, join, fine, deep, view(stream[2]), view(stream[3]))
	e, _ := w.Peer(0).Feed().View(stream[2])
	want(t, "a deep event", got[1:6], append(ids, said("event", event.Value(e)))...)
	f, _ := w.Peer(0).Feed().View(stream[3])
	if got[6] != said("event", event.Value(f)) {
		t.Errorf("a deep event: %s", got[6])
	}
	// Many members, and a state of as many slots.
	lines := []string{begin, create, join}
	for i := range 140 {
		user := fmt.Sprintf("@%s%03d:s0", strings.Repeat("x", 245), i)
		lines = append(lines, fmt.Sprintf(`{"do":"send","at":0,"sender":"@u:s0","type":"m.room.member","key":"%s","content":{"membership":"ban"}}`, user))
	}
	lines = append(lines, `{"do":"members","at":0}`)
	got = run(t, lines...)
	if v := parse(got[len(got)-1]); len(v.Map) != 1 || v.Map[0].Key != "members" || len(v.Map[0].Val.Map) != 141 {
		t.Errorf("many members: %.80s", got[len(got)-1])
	}
	slots := append(lines[:len(lines)-1], fmt.Sprintf(`{"do":"state","at":0,"id":"%s"}`, parse(got[len(got)-2]).Map[0].Val.S))
	got = run(t, slots...)
	if v := parse(got[len(got)-1]); len(v.Map) != 1 || v.Map[0].Key != "state" {
		t.Errorf("a state of many: %.80s", got[len(got)-1])
	}
}

// An event of so many bytes that it has a record, but what View says has no text.
func TestLongView(t *testing.T) {
	long := func(n int) string {
		return strings.Replace(word, `{"body":"hi\n"}`, `{"a":"`+strings.Repeat("x", n)+`"}`, 1)
	}
	w, _ := made(t, create, join, long(0))
	e, _ := w.Peer(0).Room().Event(w.Peer(0).Room().Heads()[0])
	text, _ := event.Encode(e)
	for total, fits := range map[int]bool{api.MaxBytes - len(`{"event":}`): true, api.MaxBytes - len(`{"event":}`) + 1: false, api.MaxBytes - len(`[0,,[]]`): false} {
		line := long(total - len(text))
		_, ids := made(t, create, join, line)
		view := strings.Replace(ids[2], `{"id":`, `{"do":"view","at":0,"id":`, 1)
		got := run(t, begin, create, join, line, view)
		if got[3] != ids[2] || (got[4] == `{"error":3}`) == fits || fits && len(got[4]) != api.MaxBytes {
			t.Errorf("an event of %d bytes: %.40s", total, got[4])
		}
	}
}

func good() []string {
	return []string{begin, create, word, `{"do":"deliver","k":0}`, `{"do":"lose","k":-1}`, `{"do":"double","k":9}`, `{"do":"tick","at":0}`, `{"do":"start","at":1}`, `{"do":"crash","at":0,"keep":1}`, `{"do":"arm","at":0,"n":0,"keep":0}`,
		`{"do":"put","from":"","to":"","kind":0,"texts":["a"],"ids":["b",""]}`, `{"do":"round"}`, `{"do":"flight"}`, `{"do":"sync","at":0,"since":0}`, `{"do":"messages","at":0,"depth":0,"stream":0,"n":0}`, `{"do":"members","at":0}`, `{"do":"state","at":0,"id":""}`, `{"do":"view","at":0,"id":""}`, `{"do":"show","at":0}`}
}

// Each member of each command: missing, of another kind, or one more.
func TestNoCommands(t *testing.T) {
	bad := []string{"x", "null", "[]", "1", `"flight"`, " ", "\t", "\r", "{}", `{"do":"flight"`, `{"do":"flight"}x`, `{"do":"flight"}{"do":"flight"}`, `{"do":"flight","do":"flight"}`, `{"do":""}`, `{"do":"Flight"}`, `{"do":"fly"}`, `{"do":5}`, `{"do":null}`, `{"do":["flight"]}`, `{"Do":"flight"}`, "\xff", `{"do":"flight"}` + "\r\x00", `{"do":"tick","at":1.0}`, `{"do":"tick","at":-0}`, `{"do":"tick","at":9007199254740992}`, strings.Repeat("[", 40)}
	for _, line := range good() {
		if _, _, err := script.Run(line); err != api.OK {
			t.Errorf("%s: %d", line, err)
		}
		v := parse(line)
		bad = append(bad, canon(json.Put(v, "more", json.Num(1))), canon(json.Put(v, "", json.Num(1))))
		for _, m := range v.Map {
			do, _ := json.Get(v, "do")
			if m.Key != "key" {
				bad = append(bad, canon(json.Drop(v, m.Key)))
			}
			for _, other := range []api.Value{{}, json.Bool(true), json.Num(1), json.Text("1"), json.List(), json.Map()} {
				if other.Kind != m.Val.Kind {
					bad = append(bad, canon(json.Put(v, m.Key, other)))
				}
			}
			if m.Val.Kind == api.KindList {
				bad = append(bad, canon(json.Put(v, m.Key, json.List(json.Text("a"), json.Num(1)))), canon(json.Put(v, m.Key, json.List(json.List()))))
			}
			if do.S != "send" {
				bad = append(bad, canon(json.Put(v, "key", json.Text(""))))
			}
		}
	}
	for _, line := range bad {
		for at, s := range []string{line, "\n" + line + "\n", create + "\n\n" + line + "\nx", begin + "\n" + create + "\n\n" + line} {
			number := []int{1, 2, 3, 4}[at]
			if out, n, err := script.Run(s); out != "" || n != number || err != api.ErrLine {
				t.Fatalf("%.80q: %q, %d, %d; want line %d", s, out, n, err, number)
			}
		}
	}
	want(t, "blanks and another order", run(t, " {\"at\" :0 ,\t\"do\": \"tick\"}\r", `{"key":"","content":{},"type":"t","sender":"x","at":0,"do":"send"}`, `{"do":"flig\u0068t"}`), `{"error":2}`, `{"error":2}`, `{"flight":0}`)
}

func TestLimits(t *testing.T) {
	line := `{"do":"flight"}` + "\n"
	full := strings.Repeat(line, api.MaxSteps)
	if got := run(t, strings.Split(strings.TrimSuffix(full, "\n"), "\n")...); len(got) != api.MaxSteps {
		t.Errorf("MaxSteps commands say %d lines", len(got))
	}
	for s, number := range map[string]int{full + line: 513, full + "\n\n" + line: 515, full + "x": 513, "\n" + full + "\n" + line + "x\n": 515, full + line + "x": 513, "x\n" + full + line: 1} {
		if out, n, err := script.Run(s); out != "" || n != number || err != api.ErrLine {
			t.Errorf("beyond MaxSteps: %d, %d; want line %d", n, err, number)
		}
	}
	if _, n, err := script.Run(full + strings.Repeat("\n", 600)); n != 0 || err != api.OK {
		t.Errorf("MaxSteps commands, and lines without bytes: %d, %d", n, err)
	}
	long := line + strings.Repeat("\n", api.MaxScript-len(line))
	if out, n, err := script.Run(long); out != `{"flight":0}`+"\n" || n != 0 || err != api.OK {
		t.Errorf("a script of MaxScript bytes: %d, %d", n, err)
	}
	for _, s := range []string{long + "\n", "x" + long, strings.Repeat("x", api.MaxScript+1)} {
		if out, n, err := script.Run(s); out != "" || n != 0 || err != api.ErrLong {
			t.Errorf("a script of a byte more: %d, %d", n, err)
		}
	}
	if _, n, err := script.Run(strings.Repeat("x", api.MaxScript)); n != 1 || err != api.ErrLine {
		t.Errorf("a line of MaxScript bytes: %d, %d", n, err)
	}
}

// Nothing is done when a line is no command; and two runs know nothing of one another.
func TestRuns(t *testing.T) {
	first := run(t, good()...)
	script.Run(strings.Join(good(), "\n") + "\nx")
	want(t, "run again", run(t, good()...), first...)
	want(t, "a new run", run(t, `{"do":"show","at":0}`), `{"error":1}`)
}

// Scripts by chance: each command says one line.
func TestByChance(t *testing.T) {
	rnd := rand.New(rand.NewSource(1))
	for range 60 {
		lines := []string{begin, create, join, public}
		for range rnd.Intn(60) {
			line := good()[1+rnd.Intn(len(good())-1)]
			for _, old := range []string{`"at":0`, `"k":0`, `"since":0`} {
				line = strings.Replace(line, old, old[:len(old)-1]+fmt.Sprint(rnd.Intn(4)-1), 1)
			}
			if rnd.Intn(8) == 0 {
				line = ""
			}
			lines = append(lines, line)
		}
		a := run(t, lines...)
		want(t, "the same script", run(t, lines...), a...)
	}
}
