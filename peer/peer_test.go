package peer_test

import (
	"fmt"
	"math/rand"
	"reflect"
	"slices"
	"strings"
	"testing"

	"hustings/api"
	"hustings/event"
	"hustings/feed"
	"hustings/json"
	"hustings/peer"
	"hustings/redact"
	"hustings/seal"
	"hustings/sign"
	"hustings/spool"
	"hustings/store"
)

const name = "!r:a"

func secret(server string) api.Secret {
	return api.Secret{Server: server, Name: "ed25519:1", Seed: [32]byte{server[0]}}
}

func key(server string) api.Key {
	return api.Key{Server: server, Name: "ed25519:1", Public: sign.Public(secret(server).Seed)}
}

func keys(servers ...string) []api.Key {
	var out []api.Key
	for _, s := range servers {
		out = append(out, key(s))
	}
	return out
}

func parse(s string) api.Value {
	v, err := json.Parse(s)
	if err != api.OK {
		panic(s)
	}
	return v
}

// draft: key "-": no state event.
func draft(sender, kind, key, content string) api.Draft {
	return api.Draft{Sender: sender, Type: kind, State: key != "-", Key: strings.TrimPrefix(key, "-"), Content: parse(content)}
}

func open(t *testing.T, s *spool.Spool, server string, others ...string) *peer.Peer {
	t.Helper()
	p, err := peer.Open(s, secret(server), name, keys(append([]string{server}, others...)...))
	if err != api.OK {
		t.Fatalf("Open: %d", err)
	}
	return p
}

func fresh(t *testing.T, server string, others ...string) *peer.Peer {
	t.Helper()
	return open(t, spool.New(""), server, others...)
}

func send(t *testing.T, p *peer.Peer, d api.Draft) (string, []api.Post) {
	t.Helper()
	id, posts, err := p.Send(d)
	if err != api.OK {
		t.Fatalf("Send of %s by %s: %d", d.Type, d.Sender, err)
	}
	return id, posts
}

func hear(t *testing.T, p *peer.Peer, x api.Post) []api.Post {
	t.Helper()
	out, err := p.Hear(x)
	if err != api.OK {
		t.Fatalf("Hear: %d", err)
	}
	return out
}

// begin: the first events of a room at a server, of @u; the names and the texts.
func begin(t *testing.T, p *peer.Peer, server string) (ids, texts []string) {
	t.Helper()
	for _, d := range []api.Draft{draft("@u:"+server, "m.room.create", "", `{}`), draft("@u:"+server, "m.room.member", "@u:"+server, `{"membership":"join"}`), draft("@u:"+server, "m.room.join_rules", "", `{"join_rule":"public"}`)} {
		id, _ := send(t, p, d)
		ids = append(ids, id)
		texts = append(texts, textOf(t, p, id))
	}
	return ids, texts
}

func textOf(t *testing.T, p *peer.Peer, id string) string {
	t.Helper()
	e, ok := p.Room().Event(id)
	s, err := event.Encode(e)
	if !ok || err != api.OK {
		t.Fatalf("no text of %q", id)
	}
	return s
}

func push(from, to string, texts ...string) api.Post {
	return api.Post{From: from, To: to, Kind: api.PostPush, Texts: texts}
}

func post(from, to string, kind int, ids ...string) api.Post {
	return api.Post{From: from, To: to, Kind: kind, IDs: ids}
}

// same: whether posts are the same, empty lists counting like none.
func same(a, b []api.Post) bool {
	return slices.EqualFunc(a, b, func(x, y api.Post) bool {
		return x.From == y.From && x.To == y.To && x.Kind == y.Kind && slices.Equal(x.Texts, y.Texts) && slices.Equal(x.IDs, y.IDs)
	})
}

func want(t *testing.T, what string, got []api.Post, posts ...api.Post) {
	t.Helper()
	if !same(got, posts) {
		t.Errorf("%s: %+v, want %+v", what, got, posts)
	}
}

func TestExample(t *testing.T) {
	a, b := fresh(t, "a", "b"), fresh(t, "b", "a")
	id, posts := send(t, a, draft("@u:a", "m.room.create", "", `{}`))
	want(t, "Send", posts, push("a", "b", textOf(t, a, id)))
	if !slices.Equal(a.Queue("b"), []string{id}) {
		t.Errorf("the queue: %q", a.Queue("b"))
	}
	got := hear(t, b, posts[0])
	want(t, "Hear", got, post("b", "a", api.PostGot, id))
	if b.Room().Verdict(id) != api.Accepted || len(b.Feed().Members()) > 0 {
		t.Error("b's room hasn't the event")
	}
	want(t, "Hear of PostGot", hear(t, a, got[0]))
	if len(a.Queue("b")) != 0 || len(b.Queue("a")) != 0 {
		t.Error("it stands in a queue yet")
	}
}

func TestOpen(t *testing.T) {
	for i, c := range []struct {
		k    api.Secret
		name string
	}{
		{api.Secret{Server: "", Name: "ed25519:1"}, name}, {api.Secret{Server: "A", Name: "ed25519:1"}, name}, {api.Secret{Server: "a", Name: "1"}, name}, {api.Secret{Server: "a"}, name},
		{secret("a"), ""}, {secret("a"), "r:a"}, {secret("a"), "@u:a"},
	} {
		for _, s := range []*spool.Spool{nil, spool.New(""), spool.New("Z\n")} {
			if p, err := peer.Open(s, c.k, c.name, nil); err != api.ErrArg || p != nil {
				t.Errorf("case %d: %d", i, err)
			}
		}
	}
	down := spool.New("")
	down.Off(0)
	for want, s := range map[api.Errno]*spool.Spool{api.ErrNil: nil, api.ErrDown: down, api.ErrForm: spool.New("Zg\n")} {
		if p, err := peer.Open(s, secret("a"), name, nil); err != want || p != nil {
			t.Errorf("Open: %d, want %d", err, want)
		}
	}
	p := fresh(t, "a")
	if _, posts := send(t, p, draft("@u:a", "m.room.create", "", `{}`)); len(posts) != 0 || len(p.Tick()) != 0 {
		t.Error("a server alone says something")
	}
}

// The first seven others as they come, each once, without the own one; then by rising names.
func TestOthers(t *testing.T) {
	list := keys("z", "a", "y", "z", "x", "a", "y", "b", "w", "v", "c", "u", "d")
	p, _ := peer.Open(spool.New(""), secret("a"), name, list)
	var to []string
	_, posts := send(t, p, draft("@u:a", "m.room.create", "", `{}`))
	for _, x := range posts {
		to = append(to, x.To)
	}
	if !slices.Equal(to, []string{"b", "c", "v", "w", "x", "y", "z"}) {
		t.Errorf("the others: %q", to)
	}
	for _, o := range []string{"u", "d", "a", ""} {
		if len(p.Queue(o)) != 0 {
			t.Errorf("a queue of %q", o)
		}
		if _, err := p.Hear(post(o, "a", api.PostAsk)); err != api.ErrArg {
			t.Errorf("a post of %q: %d", o, err)
		}
	}
	to = nil
	for _, x := range p.Tick() {
		to = append(to, x.To)
	}
	if !slices.Equal(to, []string{"b", "c", "v", "w", "x", "y", "z"}) {
		t.Errorf("Tick says to %q", to)
	}
}

func TestSend(t *testing.T) {
	a := fresh(t, "a", "c", "b")
	ids, texts := begin(t, a, "a")
	for _, o := range []string{"b", "c"} {
		if !slices.Equal(a.Queue(o), ids) {
			t.Errorf("the queue of %s: %q, want %q", o, a.Queue(o), ids)
		}
	}
	want(t, "Tick", a.Tick(), push("a", "b", texts...), push("a", "c", texts...))
	for _, c := range []struct {
		d    api.Draft
		want api.Errno
	}{
		{draft("@u:b", "m.room.message", "-", `{}`), api.ErrArg}, {draft("@v:a", "m.room.message", "-", `{}`), api.ErrAuth}, {draft("@u:a", "", "-", `{}`), api.ErrEvent},
	} {
		if id, posts, err := a.Send(c.d); err != c.want || id != "" || len(posts) != 0 || len(a.Queue("b")) != 3 {
			t.Errorf("Send: %d, want %d", err, c.want)
		}
	}
	id, posts := send(t, a, draft("@u:a", "m.room.message", "-", `{}`))
	want(t, "Send", posts, push("a", "b", textOf(t, a, id)), push("a", "c", textOf(t, a, id)))
	hear(t, a, post("b", "a", api.PostGot, ids[1], "$nobody", ids[0], ids[1]))
	if !slices.Equal(a.Queue("b"), []string{ids[2], id}) || len(a.Queue("c")) != 4 {
		t.Errorf("behind a PostGot: %q", a.Queue("b"))
	}
}

// Of three posts the first is lost: what the others are behind is asked for, and given.
func TestMissing(t *testing.T) {
	a, b := fresh(t, "a", "b"), fresh(t, "b", "a")
	ids, texts := begin(t, a, "a")
	out := hear(t, b, push("a", "b", texts[2]))
	miss := slices.Sorted(slices.Values([]string{ids[0], ids[1]}))
	want(t, "the third alone", out, post("b", "a", api.PostAsk, miss...))
	if !slices.Equal(b.Missing(), miss) || !slices.Equal(b.Waits(), []string{ids[2]}) || b.Room().Len() != 0 {
		t.Errorf("Missing %q, Waits %q", b.Missing(), b.Waits())
	}
	want(t, "Tick of one that waits", b.Tick(), post("b", "a", api.PostAsk, miss...))
	given := hear(t, a, out[0])
	var give []string
	for _, id := range miss {
		give = append(give, textOf(t, a, id))
	}
	want(t, "what is given", given, api.Post{From: "a", To: "b", Kind: api.PostGive, Texts: give})
	want(t, "behind what is given", hear(t, b, given[0])) // nothing is said of PostGive, and nothing is missing
	if !slices.Equal(b.Room().Stream(), ids) || len(b.Waits())+len(b.Missing()) != 0 {
		t.Errorf("the stream: %q, want %q", b.Room().Stream(), ids)
	}
	out = hear(t, b, push("a", "b", texts[1], "x", texts[0], texts[1]))
	want(t, "what is there", out, post("b", "a", api.PostGot, ids[1], ids[0]))
	want(t, "what is there, by PostGive", hear(t, b, api.Post{From: "a", To: "b", Kind: api.PostGive, Texts: texts}))
}

func TestAsk(t *testing.T) {
	a := fresh(t, "a", "b")
	want(t, "asked for the heads of nothing", hear(t, a, post("b", "a", api.PostAsk)))
	want(t, "asked for what isn't there", hear(t, a, post("b", "a", api.PostAsk, "$x")))
	ids, texts := begin(t, a, "a")
	give := func(texts ...string) api.Post {
		return api.Post{From: "a", To: "b", Kind: api.PostGive, Texts: texts}
	}
	want(t, "the heads", hear(t, a, post("b", "a", api.PostAsk)), give(texts[2]))
	want(t, "by names", hear(t, a, post("b", "a", api.PostAsk, ids[1], "$x", ids[0], ids[1])), give(texts[1], texts[0], texts[1]))
	want(t, "none that is there", hear(t, a, post("b", "a", api.PostAsk, "$x", "")))
	full := slices.Repeat([]string{ids[0]}, api.MaxFetch)
	want(t, "MaxFetch", hear(t, a, post("b", "a", api.PostAsk, full...)), give(slices.Repeat([]string{texts[0]}, api.MaxFetch)...))
}

// More heads than one post may have texts, and a queue of more.
func TestManyHeads(t *testing.T) {
	s := spool.New("")
	st, _ := store.Open(s, name)
	f := feed.New(st, secret("a"), name)
	for _, d := range []api.Draft{draft("@u:a", "m.room.create", "", `{}`), draft("@u:a", "m.room.member", "@u:a", `{"membership":"join"}`)} {
		f.Send(d)
	}
	var list []api.Event
	for i := range 70 {
		e, _ := f.Build(api.Draft{Sender: "@u:a", Type: "m.room.message", Content: json.Map(), Time: i})
		list = append(list, e)
	}
	for _, e := range list {
		st.Take(e)
	}
	a := open(t, s, "a", "b")
	var heads, queue []string
	for _, id := range a.Room().Heads()[:api.MaxFetch] {
		heads = append(heads, textOf(t, a, id))
	}
	for _, id := range a.Room().Stream()[:api.MaxFetch] {
		queue = append(queue, textOf(t, a, id))
	}
	want(t, "the heads", hear(t, a, post("b", "a", api.PostAsk)), api.Post{From: "a", To: "b", Kind: api.PostGive, Texts: heads})
	want(t, "Tick", a.Tick(), push("a", "b", queue...))
	if !slices.Equal(a.Queue("b"), a.Room().Stream()) || len(a.Queue("b")) != 72 {
		t.Error("the queue isn't the stream's own events")
	}
	b := fresh(t, "b", "a")
	for range 9 { // pushed piece by piece
		for _, x := range slices.Concat(a.Tick(), b.Tick()) {
			to := map[string]*peer.Peer{"a": a, "b": b}
			for _, y := range hear(t, to[x.To], x) {
				hear(t, to[y.To], y)
			}
		}
	}
	if len(a.Queue("b")) != 0 || b.Room().Len() != 72 || !slices.Equal(a.Room().Heads(), b.Room().Heads()) {
		t.Errorf("b has %d events; %d in the queue", b.Room().Len(), len(a.Queue("b")))
	}
}

func TestTickEmpty(t *testing.T) {
	b := fresh(t, "b", "a", "c")
	want(t, "Tick of an empty room", b.Tick(), post("b", "a", api.PostAsk), post("b", "c", api.PostAsk))
	a := fresh(t, "a", "b")
	_, texts := begin(t, a, "a")
	hear(t, b, push("a", "b", texts...))
	want(t, "Tick of a room without own events", b.Tick())
}

func TestHearErrors(t *testing.T) {
	a := fresh(t, "a", "b")
	ids, texts := begin(t, a, "a")
	many := slices.Repeat([]string{"x"}, api.MaxFetch+1)
	for i, x := range []api.Post{
		{From: "b", To: "b", Kind: 2}, {From: "b", To: "", Kind: 2}, {From: "a", To: "a", Kind: 2}, {From: "c", To: "a", Kind: 2}, {From: "", To: "a", Kind: 2},
		{From: "b", To: "a", Kind: 0}, {From: "b", To: "a", Kind: 5}, {From: "b", To: "a", Kind: -1},
		{From: "b", To: "a", Kind: 1, Texts: many}, {From: "b", To: "a", Kind: 1, IDs: many}, {From: "b", To: "a", Kind: 4, Texts: many}, {From: "b", To: "a", Kind: 2, IDs: many},
	} {
		if i == 10 {
			x.IDs = ids
		}
		if out, err := a.Hear(x); err != api.ErrArg || len(out) != 0 {
			t.Errorf("case %d: %d", i, err)
		}
	}
	if len(a.Queue("b")) != 3 {
		t.Error("a post that is refused changes something")
	}
	for i, x := range []api.Post{{From: "b", To: "a", Kind: 1, Texts: many[1:], IDs: many[1:]}, {From: "b", To: "a", Kind: 4, Texts: texts, IDs: []string{"x"}}, {From: "b", To: "a", Kind: 3}, {From: "b", To: "a", Kind: 1, IDs: ids}} {
		want(t, fmt.Sprintf("case %d, in which nothing is to be said", i), hear(t, a, x))
	}
}

// forge: an event of whatever kind, closed by a secret.
func forge(t *testing.T, e api.Event, k api.Secret) string {
	t.Helper()
	e, err := seal.Close(e, k)
	s, err2 := event.Encode(e)
	if err != api.OK || err2 != api.OK {
		t.Fatalf("forge: %d, %d", err, err2)
	}
	return s
}

func create(sender string) api.Event {
	return api.Event{Room: name, Sender: sender, Type: "m.room.create", State: true, Content: json.Map()}
}

// What isn't a right event changes nothing.
func TestForged(t *testing.T) {
	a := fresh(t, "a", "b", "c")
	ids, texts := begin(t, a, "a")
	b := fresh(t, "b", "a", "c")
	other := create("@u:a")
	other.Room = "!s:a"
	rightOther := forge(t, other, secret("a"))
	stranger := secret("a")
	stranger.Seed[5] = 9
	for i, text := range []string{
		forge(t, create("@u:a"), secret("c")), forge(t, create("@u:c"), secret("a")), forge(t, create("@u:a"), stranger), forge(t, create("@u:d"), secret("d")),
		rightOther, "", "{}", "x", texts[0][1:], texts[0] + "x", strings.Replace(texts[0], `"depth":0`, `"depth":1`, 1), strings.Replace(texts[0], `"signatures":{`, `"signatures":{},"x":{`, 1), "\xff",
		strings.Replace(texts[0], `"content":{}`, `"content":{"a":1}`, 1), // a create's content stays whole
		strings.Replace(texts[1], `"join"`, `"ban"`, 1),
	} {
		for _, kind := range []int{api.PostPush, api.PostGive} {
			want(t, fmt.Sprintf("forged %d", i), hear(t, b, api.Post{From: "c", To: "b", Kind: kind, Texts: []string{text}}))
		}
	}
	if b.Room().Len()+len(b.Waits())+len(b.Missing()) != 0 {
		t.Error("what is forged changes something")
	}
	spaced := strings.Replace(texts[0], `{"auth_events":`, "{ \"auth_events\" :\n", 1)
	want(t, "a text that isn't canonical", hear(t, b, push("c", "b", spaced)), post("b", "c", api.PostGot, ids[0]))
	if textOf(t, b, ids[0]) != texts[0] {
		t.Error("the event is another one")
	}
}

// The content of a message turned behind its signing: it is taken in without content.
func TestStripped(t *testing.T) {
	a, b := fresh(t, "a", "b"), fresh(t, "b", "a")
	ids, texts := begin(t, a, "a")
	word, _ := send(t, a, draft("@u:a", "m.room.message", "-", `{"body":"hi"}`))
	turned := strings.Replace(textOf(t, a, word), "hi", "ho", 1)
	want(t, "a turned text", hear(t, b, push("a", "b", append(texts, turned)...)), post("b", "a", api.PostGot, append(ids, word)...))
	e, _ := b.Room().Event(word)
	if f, _ := a.Room().Event(word); !redact.Is(e) || !event.Same(e, redact.Strip(f)) {
		t.Error("it isn't stripped")
	}
	want(t, "the whole one, later", hear(t, b, push("a", "b", textOf(t, a, word))), post("b", "a", api.PostGot, word))
	if e, _ := b.Room().Event(word); !redact.Is(e) {
		t.Error("it was taken anew")
	}
	c := fresh(t, "c", "a")
	hear(t, c, push("a", "c", texts[0], turned)) // it waits, and takes the place of one of its name
	hear(t, c, push("a", "c", textOf(t, a, word)))
	hear(t, c, push("a", "c", texts...))
	if e, ok := c.Room().Event(word); !ok || redact.Is(e) {
		t.Error("the one that came later doesn't wait instead")
	}
}

// line: n messages of @u:a, each behind the last one, and the names.
func line(t *testing.T, a *peer.Peer, n int) (ids, texts []string) {
	t.Helper()
	for i := range n {
		id, _ := send(t, a, api.Draft{Sender: "@u:a", Type: "m.room.message", Content: json.Map(), Time: i})
		ids, texts = append(ids, id), append(texts, textOf(t, a, id))
	}
	return ids, texts
}

// At most MaxQueue events wait; what is missing is told in pieces of MaxFetch.
func TestLimits(t *testing.T) {
	a, b := fresh(t, "a", "b"), fresh(t, "b", "a")
	first, firstTexts := begin(t, a, "a")
	ids, texts := line(t, a, api.MaxQueue+3)
	for i := 1; i < len(texts); i += api.MaxFetch {
		out := hear(t, b, push("a", "b", texts[i:min(len(texts), i+api.MaxFetch)]...))
		if len(out) != 1 || out[0].Kind != api.PostAsk || !slices.Equal(out[0].IDs, b.Missing()) {
			t.Fatalf("said: %+v", out)
		}
	}
	if got := b.Waits(); len(got) != api.MaxQueue || !slices.Equal(got, slices.Sorted(slices.Values(ids[1:api.MaxQueue+1]))) {
		t.Fatalf("%d wait", len(got))
	}
	hear(t, b, push("a", "b", texts[api.MaxQueue/2])) // one that waits already
	if len(b.Waits()) != api.MaxQueue {
		t.Errorf("%d wait", len(b.Waits()))
	}
	hear(t, b, push("a", "b", append(firstTexts, texts[0])...)) // no room for it: nothing is taken
	if b.Room().Len() != 0 || len(b.Waits()) != api.MaxQueue {
		t.Errorf("%d events, %d wait", b.Room().Len(), len(b.Waits()))
	}
	c := fresh(t, "c", "a")
	var odd []string
	for i := 1; i < 140; i += 2 {
		odd = append(odd, texts[i])
	}
	hear(t, c, push("a", "c", odd[:60]...))
	hear(t, c, push("a", "c", odd[60:]...))
	miss := []string{first[0], first[1]} // create and join are named by all
	for i := 0; i < 140; i += 2 {
		miss = append(miss, ids[i])
	}
	slices.Sort(miss)
	if !slices.Equal(c.Missing(), miss[:api.MaxFetch]) {
		t.Errorf("Missing has %d names", len(c.Missing()))
	}
	want(t, "Tick", c.Tick(), post("c", "a", api.PostAsk, miss[:api.MaxFetch]...))
}

// Events whose gaps are filled one behind the other come in all at once, in whatever order they wait.
func TestSettle(t *testing.T) {
	a, b := fresh(t, "a", "b"), fresh(t, "b", "a")
	first, firstTexts := begin(t, a, "a")
	ids, texts := line(t, a, 30)
	back := slices.Clone(texts)
	slices.Reverse(back)
	hear(t, b, push("a", "b", back...))
	if len(b.Waits()) != 30 || b.Room().Len() != 0 {
		t.Fatalf("%d wait", len(b.Waits()))
	}
	out := hear(t, b, push("a", "b", firstTexts...))
	want(t, "said", out, post("b", "a", api.PostGot, first...))
	if !slices.Equal(b.Room().Stream(), append(first, ids...)) || len(b.Waits()) != 0 {
		t.Errorf("%d events, %d wait", b.Room().Len(), len(b.Waits()))
	}
}

// What waits can be settled by what an own user sends.
func TestSettleBySend(t *testing.T) {
	a, b := fresh(t, "a", "b"), fresh(t, "b", "a")
	_, texts := begin(t, a, "a")
	hear(t, b, push("a", "b", texts...))
	id, posts := send(t, b, draft("@v:b", "m.room.member", "@v:b", `{"membership":"join"}`))
	hear(t, a, posts[0])
	word, posts := send(t, a, draft("@u:a", "m.room.message", "-", `{}`))
	s := spool.New("")
	c := open(t, s, "b", "a") // b, without what it sent
	hear(t, c, push("a", "b", texts...))
	hear(t, c, posts[0])
	if !slices.Equal(c.Waits(), []string{word}) || !slices.Equal(c.Missing(), []string{id}) {
		t.Fatalf("Waits %q, Missing %q", c.Waits(), c.Missing())
	}
	again, _ := send(t, c, draft("@v:b", "m.room.member", "@v:b", `{"membership":"join"}`))
	if again != id || len(c.Waits()) != 0 || c.Room().Verdict(word) != api.Accepted {
		t.Errorf("Waits %q behind the own event", c.Waits())
	}
}

// What can't come in for another reason than a gap waits no more.
func TestRefused(t *testing.T) {
	b := fresh(t, "b", "a")
	e := create("@u:a")
	text := forge(t, e, secret("a"))
	e.Content = parse(`{"a":"` + strings.Repeat("x", api.MaxBytes-len(text)-8) + `"}`)
	long := forge(t, e, secret("a"))
	if len(long) < api.MaxBytes-5 || len(long) > api.MaxBytes {
		t.Fatalf("a text of %d bytes", len(long))
	}
	want(t, "an event that is too long for a record", hear(t, b, push("a", "b", long)))
	if len(b.Waits())+b.Room().Len() != 0 {
		t.Error("it waits, or is there")
	}
	gap := create("@u:a")
	gap.Type, gap.Prev = "m.room.message", []string{"$" + strings.Repeat("A", 43)}
	gap.State = false
	want(t, "an event with a gap", hear(t, b, push("a", "b", forge(t, gap, secret("a")))), post("b", "a", api.PostAsk, gap.Prev[0]))
	if len(b.Waits()) != 1 {
		t.Error("it doesn't wait")
	}
	want(t, "Tick of one that misses one", b.Tick(), post("b", "a", api.PostAsk, gap.Prev[0]))
}

// Rejected events are there, and told to be; they are in no queue when it is opened again.
func TestRejected(t *testing.T) {
	s := spool.New("")
	a, b := fresh(t, "a", "b"), open(t, s, "b", "a")
	ids, texts := begin(t, a, "a")
	hear(t, b, push("a", "b", texts...))
	e := api.Event{Room: name, Sender: "@v:b", Type: "m.room.message", Content: json.Map(), Prev: ids[2:], Auth: ids[:1]}
	text := forge(t, e, secret("b"))
	own, _ := event.Decode(text)
	want(t, "an own event that is rejected", hear(t, b, push("a", "b", text)), post("b", "a", api.PostGot, seal.Name(own)))
	if b.Room().Verdict(seal.Name(own)) != api.Rejected || len(b.Queue("a")) != 0 {
		t.Error("it isn't rejected, or in a queue")
	}
	id, _ := send(t, b, draft("@v:b", "m.room.member", "@v:b", `{"membership":"join"}`))
	again := open(t, s, "b", "a")
	if !slices.Equal(again.Queue("a"), []string{id}) || again.Room().Len() != 5 || len(again.Waits()) != 0 {
		t.Errorf("opened again: %q", again.Queue("a"))
	}
	want(t, "Tick, opened again", again.Tick(), push("b", "a", textOf(t, b, id)))
}

func TestDown(t *testing.T) {
	s := spool.New("")
	a, b := fresh(t, "a", "b"), open(t, s, "b", "a")
	ids, texts := begin(t, a, "a")
	s.Off(0)
	if out, err := b.Hear(push("a", "b", texts...)); err != api.ErrDown || len(out) != 0 || len(b.Waits()) != 0 {
		t.Errorf("Hear with the power off: %d", err)
	}
	if out, err := b.Hear(api.Post{}); err != api.ErrDown || len(out) != 0 {
		t.Errorf("Hear of no post, with the power off: %d", err)
	}
	if len(b.Tick()) != 0 {
		t.Error("Tick with the power off")
	}
	if _, _, err := b.Send(draft("@v:b", "m.room.create", "", `{}`)); err != api.ErrDown && err != api.ErrAuth {
		t.Errorf("Send with the power off: %d", err)
	}
	s.On()
	s.Arm(3, 0)
	if out, err := b.Hear(push("a", "b", texts...)); err != api.ErrDown || len(out) != 0 {
		t.Errorf("Hear as the power goes: %d", err)
	}
	if b.Room().Len() != 1 || !slices.Equal(b.Waits(), slices.Sorted(slices.Values(ids[1:]))) {
		t.Errorf("behind that: %d events, Waits %q", b.Room().Len(), b.Waits())
	}
	s.On()
	if out, err := b.Hear(push("a", "b", texts[0])); err != api.ErrDown || len(out) != 0 {
		t.Errorf("with the power back, and not opened again: %d", err)
	}
	again := open(t, s, "b", "a")
	want(t, "opened again", hear(t, again, push("a", "b", texts...)), post("b", "a", api.PostGot, ids...))
}

// Wherever the power goes: what was told to be there is there when it is opened again.
func TestToldLate(t *testing.T) {
	a := fresh(t, "a", "b")
	_, texts := begin(t, a, "a")
	_, more := line(t, a, 6)
	texts = append(texts, more...)
	rnd := rand.New(rand.NewSource(1))
	for act := 1; act <= 18; act++ {
		for _, keep := range []int{-1, 0, 50, 1 << 20} {
			s := spool.New("")
			b := open(t, s, "b", "a")
			s.Arm(act, keep)
			told := map[string]bool{}
			for range 12 {
				var some []string
				for range 3 {
					some = append(some, texts[rnd.Intn(len(texts))])
				}
				out, err := b.Hear(push("a", "b", some...))
				if err != api.OK && err != api.ErrDown || err != api.OK && len(out) > 0 {
					t.Fatalf("Hear: %d", err)
				}
				for _, x := range out {
					for _, id := range x.IDs {
						told[id] = told[id] || x.Kind == api.PostGot
					}
				}
			}
			s.Off(0)
			s.On()
			again := open(t, s, "b", "a")
			for id, got := range told {
				if got && again.Room().Verdict(id) == 0 {
					t.Fatalf("power gone in act %d with %d: %q was told to be there", act, keep, id)
				}
			}
		}
	}
}

// Every event that is there was signed by its sender's server, whatever is heard.
func TestSigned(t *testing.T) {
	rnd := rand.New(rand.NewSource(2))
	a, b := fresh(t, "a", "b"), fresh(t, "b", "a", "c")
	ids, texts := begin(t, a, "a")
	mint := func() string {
		sender := []string{"a", "b", "c"}[rnd.Intn(3)]
		e := api.Event{Room: name, Sender: "@v:" + sender, Type: "m.room.member", State: true, Key: "@v:" + sender, Content: parse(`{"membership":"join"}`), Prev: ids[2:], Auth: ids[:1], Time: rnd.Intn(9)}
		return forge(t, e, secret([]string{"a", "b", "c"}[rnd.Intn(3)]))
	}
	all := slices.Clone(texts)
	for range 60 {
		all = append(all, mint())
	}
	for range 200 {
		s := all[rnd.Intn(len(all))]
		if rnd.Intn(3) == 0 {
			at := rnd.Intn(len(s))
			s = s[:at] + string("0a\"$,"[rnd.Intn(5)]) + s[at+1:]
		}
		hear(t, b, api.Post{From: []string{"a", "c"}[rnd.Intn(2)], To: "b", Kind: []int{1, 3}[rnd.Intn(2)], Texts: []string{s}})
	}
	if b.Room().Len() < 5 {
		t.Fatalf("the test shows nothing: %d events", b.Room().Len())
	}
	for _, s := range all {
		e, _ := event.Decode(s)
		id := seal.Name(e)
		if got, ok := b.Room().Event(id); ok && !seal.Signed(got, got.Sender[strings.Index(got.Sender, ":")+1:], keys("a", "b", "c")) {
			t.Errorf("%s isn't signed", id)
		}
	}
}

func TestNil(t *testing.T) {
	var p *peer.Peer
	if out, err := p.Hear(api.Post{}); err != api.ErrNil || len(out) != 0 {
		t.Errorf("Hear: %d", err)
	}
	if id, posts, err := p.Send(api.Draft{}); err != api.ErrNil || id != "" || len(posts) != 0 {
		t.Errorf("Send: %d", err)
	}
	if p.Room() != nil || p.Feed() != nil || len(p.Tick())+len(p.Missing())+len(p.Waits())+len(p.Queue("a")) != 0 {
		t.Error("a nil server has something")
	}
}

func TestMemory(t *testing.T) {
	list := keys("b", "a")
	a, _ := peer.Open(spool.New(""), secret("a"), name, list)
	bList := keys("a", "b")
	b, _ := peer.Open(spool.New(""), secret("b"), name, bList)
	bList[0].Public[0] ^= 1
	bList[0].Server = "z"
	list[0].Server = "z"
	ids, texts := begin(t, a, "a")
	if !slices.Equal(a.Queue("b"), ids) {
		t.Error("the keys were kept")
	}
	x := push("a", "b", texts[2])
	out := hear(t, b, x)
	if !reflect.DeepEqual(x, push("a", "b", texts[2])) || len(b.Waits()) != 1 {
		t.Error("what is heard is changed, or the keys were kept")
	}
	out[0].IDs[0], b.Missing()[0], b.Waits()[0], a.Queue("b")[0] = "x", "x", "x", "x"
	if len(b.Missing()) != 2 || slices.Contains(b.Missing(), "x") || b.Waits()[0] != ids[2] || a.Queue("b")[0] != ids[0] {
		t.Error("lists of answers share memory with the server")
	}
	got := []string{ids[0]}
	hear(t, a, post("b", "a", api.PostGot, got...))
	got[0] = ids[1]
	posts := a.Tick()
	posts[0].Texts[0] = "x"
	if again := a.Tick(); again[0].Texts[0] != texts[1] {
		t.Error("two answers of Tick share memory")
	}
}
