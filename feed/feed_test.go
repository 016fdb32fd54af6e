package feed_test

import (
	"fmt"
	"math/rand"
	"reflect"
	"slices"
	"strings"
	"testing"

	"hustings/api"
	"hustings/event"
	"hustings/feed"
	"hustings/json"
	"hustings/pick"
	"hustings/redact"
	"hustings/seal"
	"hustings/sign"
	"hustings/spool"
	"hustings/store"
)

const name = "!r:x"

var secret = api.Secret{Server: "x", Name: "ed25519:1", Seed: [32]byte{1}}

func parse(s string) api.Value {
	v, err := json.Parse(s)
	if err != api.OK {
		panic(s)
	}
	return v
}

// hall is a feed and its store.
type hall struct {
	*feed.Feed
	st *store.Store
	t  *testing.T
	n  int
}

func open(t *testing.T) *hall {
	st, err := store.Open(spool.New(""), name)
	if err != api.OK {
		t.Fatal(err)
	}
	return &hall{feed.New(st, secret, name), st, t, 0}
}

// draft: key "-": no state event.
func draft(sender, kind, key, content string) api.Draft {
	return api.Draft{Sender: sender, Type: kind, State: key != "-", Key: strings.TrimPrefix(key, "-"), Content: parse(content)}
}

func (h *hall) send(sender, kind, key, content string) string {
	h.t.Helper()
	id, err := h.Send(draft(sender, kind, key, content))
	if err != api.OK {
		h.t.Fatalf("Send of %s by %s: %d", kind, sender, err)
	}
	return id
}

// come: an event of whomever, behind some others, is taken in by the store.
func (h *hall) come(sender, kind, key, content string, depth int, prev ...string) string {
	h.t.Helper()
	h.n++
	e := api.Event{Room: name, Sender: sender, Type: kind, State: key != "-", Key: strings.TrimPrefix(key, "-"), Content: parse(content), Prev: prev, Depth: depth, Time: h.n, Hash: strings.Repeat("A", 43)}
	state, _ := h.st.Room().After(prev[0])
	e.Auth = pick.Select(e, state)
	id, err := h.st.Take(e)
	if err != api.OK {
		h.t.Fatalf("Take of %s by %s: %d", kind, sender, err)
	}
	return id
}

// begun: a room of @a:x with public join rules.
func begun(t *testing.T) *hall {
	h := open(t)
	h.send("@a:x", "m.room.create", "", `{}`)
	h.send("@a:x", "m.room.member", "@a:x", `{"membership":"join"}`)
	h.send("@a:x", "m.room.power_levels", "", `{"users":{"@a:x":100}}`)
	h.send("@a:x", "m.room.join_rules", "", `{"join_rule":"public"}`)
	return h
}

func (h *hall) event(id string) api.Event {
	e, _ := h.st.Room().Event(id)
	return e
}

func TestExample(t *testing.T) {
	h := open(t)
	c := h.send("@a:x", "m.room.create", "", `{}`)
	j := h.send("@a:x", "m.room.member", "@a:x", `{"membership":"join"}`)
	e := h.event(j)
	if !slices.Equal(e.Prev, []string{c}) || !slices.Equal(e.Auth, []string{c}) || e.Depth != 1 || h.event(c).Depth != 0 {
		t.Errorf("the join: %+v", e)
	}
	if ids, next, err := h.Sync(1); err != api.OK || next != 2 || !slices.Equal(ids, []string{j}) {
		t.Errorf("Sync(1): %q, %d, %d", ids, next, err)
	}
}

// want: the event of a draft once more.
func (h *hall) want(d api.Draft) api.Event {
	r := h.st.Room()
	e := api.Event{Room: name, Sender: d.Sender, Type: d.Type, State: d.State, Key: d.Key, Content: d.Content, Time: d.Time}
	e.Prev = r.Heads()
	if len(e.Prev) > 20 {
		e.Prev = e.Prev[:20]
	}
	for _, id := range e.Prev {
		e.Depth = max(e.Depth, h.event(id).Depth+1)
	}
	e.Depth = min(e.Depth, api.MaxNum)
	e.Auth = pick.Select(e, r.Current())
	out, _ := seal.Close(e, secret)
	return out
}

func TestBuild(t *testing.T) {
	h := begun(t)
	b := h.send("@b:x", "m.room.member", "@b:x", `{"membership":"join"}`)
	for i := range 25 { // heads of several depths, more than Prev can name
		h.come("@b:x", "m.room.message", "-", `{}`, []int{7, 3, 40}[i%3]+i, b)
		d := draft("@b:x", "m.room.message", "-", fmt.Sprintf(`{"n":%d}`, i))
		d.Time = i
		before := h.st.Room().Len()
		got, err := h.Build(d)
		if err != api.OK || !event.Same(got, h.want(d)) || h.st.Room().Len() != before {
			t.Fatalf("%d heads: %d, %+v", i+1, err, got)
		}
		key := sign.Public(secret.Seed)
		if back, err := seal.Check(got, []api.Key{{Server: "x", Name: "ed25519:1", Public: key}}); err != api.OK || !event.Same(back, got) {
			t.Fatalf("what is built isn't closed: %d", err)
		}
	}
	if n := len(h.st.Room().Heads()); n != 26 && n != 25 {
		t.Errorf("%d heads", n)
	}
	e, _ := h.Build(draft("@b:x", "m.room.message", "-", `{}`))
	if len(e.Prev) != 20 || !slices.Equal(e.Prev, h.st.Room().Heads()[:20]) {
		t.Errorf("Prev has %d names", len(e.Prev))
	}
}

func TestDepth(t *testing.T) {
	h := begun(t)
	last := h.st.Room().Heads()[0]
	for _, depth := range []int{api.MaxNum - 1, api.MaxNum} {
		last = h.come("@a:x", "m.room.message", "-", `{}`, depth, last)
		if e, err := h.Build(draft("@a:x", "m.room.message", "-", `{}`)); err != api.OK || e.Depth != api.MaxNum {
			t.Errorf("behind the depth %d: %d, %d", depth, e.Depth, err)
		}
	}
}

func TestBuildErrors(t *testing.T) {
	h := begun(t)
	deep := strings.Repeat(`{"a":`, 31) + "{}" + strings.Repeat("}", 31)
	long := `{"a":"` + strings.Repeat("x", api.MaxBytes-10) + `"}`
	bad := draft("@a:x", "m.room.message", "-", `{}`)
	bad.Content = json.Map(api.Member{Key: "n", Val: json.Num(api.MaxNum + 1)})
	keyed := draft("@a:x", "m.room.message", "-", `{}`)
	keyed.Key = "k"
	late := draft("@a:x", "m.room.message", "-", `{}`)
	late.Time = -1
	for i, c := range []struct {
		d    api.Draft
		want api.Errno
	}{
		{draft("@a:y", "m.room.message", "-", `{}`), api.ErrArg},
		{draft("@a:x:1", "m.room.message", "-", `{}`), api.ErrArg},
		{draft("@A:x", "m.room.message", "-", `{}`), api.ErrArg},
		{draft("", "m.room.message", "-", `{}`), api.ErrArg},
		{draft("x", "m.room.message", "-", `{}`), api.ErrArg},
		{draft("!r:x", "m.room.message", "-", `{}`), api.ErrArg},
		{draft("@a:y", "", "-", deep), api.ErrArg},
		{draft("@a:x", "", "-", `{}`), api.ErrEvent},
		{draft("@b:x", "", "-", `{}`), api.ErrEvent},
		{draft("@a:x", "m.room.message", "-", `[]`), api.ErrEvent},
		{api.Draft{Sender: "@a:x", Type: "m.room.message"}, api.ErrEvent},
		{draft("@a:x", "m.room.topic", strings.Repeat("k", 256), `{}`), api.ErrEvent},
		{bad, api.ErrEvent}, {keyed, api.ErrEvent}, {late, api.ErrEvent},
		{draft("@b:x", "m.room.message", "-", deep), api.ErrDeep},
		{draft("@b:x", "m.room.message", "-", long), api.ErrLong},
		{draft("@b:x", "m.room.message", "-", `{}`), api.ErrAuth},
		{draft("@a:x", "m.room.topic", "@b:x", `{}`), api.ErrAuth},
		{draft("@a:x", "m.room.create", "", `{}`), api.ErrAuth}, // it has Prev
	} {
		if e, err := h.Build(c.d); err != c.want || !reflect.DeepEqual(e, api.Event{}) {
			t.Errorf("case %d: Build: %d, want %d", i, err, c.want)
		}
		if id, err := h.Send(c.d); err != c.want || id != "" {
			t.Errorf("case %d: Send: %d, want %d", i, err, c.want)
		}
	}
	if h.st.Room().Len() != 4 {
		t.Error("what is refused changes something")
	}
	for _, k := range []api.Secret{{Server: "x", Name: "1"}, {Server: "x"}} {
		f := feed.New(h.st, k, name)
		if _, err := f.Build(draft("@a:x", "m.room.message", "-", `{}`)); err != api.ErrArg {
			t.Errorf("a secret whose key has no name: %d", err)
		}
		if _, err := f.Build(draft("@a:x", "", "-", `{}`)); err != api.ErrEvent {
			t.Errorf("a secret whose key has no name, and no event: %d", err)
		}
	}
	f := feed.New(h.st, secret, "!s:x")
	if e, err := f.Build(draft("@a:x", "m.room.message", "-", `{}`)); err != api.OK || e.Room != "!s:x" {
		t.Errorf("a feed of another name: %d", err)
	}
	if _, err := f.Send(draft("@a:x", "m.room.message", "-", `{}`)); err != api.ErrEvent {
		t.Errorf("the store's error: %d", err)
	}
}

// What may be sent is allowed by the current state, and accepted.
func TestOwn(t *testing.T) {
	h := begun(t)
	h.send("@b:x", "m.room.member", "@b:x", `{"membership":"join"}`)
	last := h.st.Room().Heads()[0]
	h.come("@a:x", "m.room.message", "-", `{}`, 9, last)
	h.come("@a:x", "m.room.member", "@b:x", `{"membership":"ban"}`, 9, last)
	if _, err := h.Send(draft("@b:x", "m.room.message", "-", `{}`)); err != api.ErrAuth {
		t.Errorf("by one who is banned at one head: %d", err)
	}
	id := h.send("@a:x", "m.room.message", "-", `{}`)
	if h.st.Room().Verdict(id) != api.Accepted || !slices.Equal(h.st.Room().Heads(), []string{id}) {
		t.Error("what is sent isn't accepted, or isn't behind all heads")
	}
	st, _ := store.Open(spool.New(""), name)
	f := feed.New(st, secret, name)
	if _, err := f.Send(draft("@a:x", "m.room.member", "@a:x", `{"membership":"join"}`)); err != api.ErrAuth {
		t.Errorf("ahead of a create: %d", err)
	}
}

func TestSync(t *testing.T) {
	h := begun(t)
	last := h.st.Room().Heads()[0]
	h.come("@c:y", "m.room.message", "-", `{}`, 9, last) // rejected
	var got []string
	token := 0
	for i := range 10 {
		if i%3 == 1 {
			h.send("@a:x", "m.room.message", "-", fmt.Sprintf(`{"n":%d}`, i))
			h.send("@a:x", "m.room.message", "-", fmt.Sprintf(`{"m":%d}`, i))
		}
		ids, next, err := h.Sync(token)
		if err != api.OK || next != len(got)+len(ids) {
			t.Fatalf("Sync(%d): %q, %d, %d", token, ids, next, err)
		}
		got, token = append(got, ids...), next
	}
	stream := h.st.Room().Stream()
	if !slices.Equal(got, stream) {
		t.Errorf("told %q, the stream is %q", got, stream)
	}
	for since := -2; since < len(stream)+3; since++ {
		ids, next, err := h.Sync(since)
		if since < 0 || since > len(stream) {
			if err != api.ErrArg || len(ids) != 0 || next != 0 {
				t.Errorf("Sync(%d): %q, %d, %d", since, ids, next, err)
			}
		} else if err != api.OK || next != len(stream) || !slices.Equal(ids, stream[since:]) {
			t.Errorf("Sync(%d): %q, %d, %d", since, ids, next, err)
		}
	}
	ids, _, _ := h.Sync(0)
	ids[0] = "written"
	if again, _, _ := h.Sync(0); !slices.Equal(again, stream) {
		t.Error("two answers share memory")
	}
}

// page: Messages once more.
func (h *hall) page(below api.Rank, n int) ([]string, api.Rank, bool) {
	type row struct {
		id   string
		a, b int
	}
	var rows []row
	for i, id := range h.st.Room().Stream() {
		if d := h.event(id).Depth; d < below.A || d == below.A && i < below.B {
			rows = append(rows, row{id, d, i})
		}
	}
	var ids []string
	var last api.Rank
	for len(rows) > 0 && len(ids) < n {
		best := 0
		for i, r := range rows {
			if r.a > rows[best].a || r.a == rows[best].a && r.b > rows[best].b {
				best = i
			}
		}
		ids, last = append(ids, rows[best].id), api.Rank{A: rows[best].a, B: rows[best].b}
		rows = slices.Delete(rows, best, best+1)
	}
	return ids, last, len(ids) > 0
}

func TestMessages(t *testing.T) {
	rnd := rand.New(rand.NewSource(1))
	h := begun(t)
	last := h.st.Room().Heads()[0]
	for range 20 { // depths that don't rise with the stream
		h.come("@a:x", "m.room.message", "-", `{}`, rnd.Intn(6), last)
	}
	h.come("@c:y", "m.room.message", "-", `{}`, 3, last) // rejected
	top := api.Rank{A: 1 << 62}
	for range 300 {
		below, n := api.Rank{A: rnd.Intn(9) - 1, B: rnd.Intn(30) - 2, S: "z"}, rnd.Intn(30)-2
		ids, at, ok := h.Messages(below, n)
		want, place, right := h.page(below, n)
		if !slices.Equal(ids, want) || at != place || ok != right {
			t.Fatalf("Messages(%v, %d): %q, %v, %v; want %q, %v, %v", below, n, ids, at, ok, want, place, right)
		}
	}
	for range 30 { // page by page, whatever the ns: each once
		var all []string
		for at, ok := top, true; ok; {
			var ids []string
			ids, at, ok = h.Messages(at, 1+rnd.Intn(5))
			all = append(all, ids...)
		}
		want, _, _ := h.page(top, 1<<30)
		if !slices.Equal(all, want) || len(all) != len(h.st.Room().Stream()) {
			t.Fatalf("page by page: %q, want %q", all, want)
		}
	}
	if ids, _, ok := h.Messages(top, 1<<62); !ok || len(ids) != 24 {
		t.Errorf("all at once: %d", len(ids))
	}
	for _, n := range []int{0, -1, -1 << 63} {
		if ids, at, ok := h.Messages(top, n); ok || len(ids) != 0 || at != (api.Rank{}) {
			t.Errorf("Messages of %d", n)
		}
	}
	if ids, at, ok := open(t).Messages(top, 5); ok || len(ids) != 0 || at != (api.Rank{}) {
		t.Error("Messages of no events")
	}
}

func TestMembers(t *testing.T) {
	h := begun(t)
	if h := open(t); len(h.Members()) != 0 {
		t.Error("members of an empty room")
	}
	h.send("@a:x", "m.room.member", "@d:y", `{"membership":"invite"}`)
	h.send("@a:x", "m.room.member", "@c:y", `{"membership":"ban"}`)
	h.send("@b:x", "m.room.member", "@b:x", `{"membership":"join"}`)
	h.send("@b:x", "m.room.member", "@b:x", `{"membership":"leave"}`)
	h.send("@a:x", "m.room.topic", "@a:x", `{"membership":"ban"}`)
	want := []api.Member{{Key: "@a:x", Val: json.Text("join")}, {Key: "@b:x", Val: json.Text("leave")}, {Key: "@c:y", Val: json.Text("ban")}, {Key: "@d:y", Val: json.Text("invite")}}
	got := h.Members()
	if !reflect.DeepEqual(got, want) {
		t.Errorf("Members: %+v", got)
	}
	got[0].Key = "written"
	if !reflect.DeepEqual(h.Members(), want) {
		t.Error("two answers share memory")
	}
}

func TestView(t *testing.T) {
	h := begun(t)
	h.send("@b:x", "m.room.member", "@b:x", `{"membership":"join"}`)
	last := h.st.Room().Heads()[0]
	y := h.come("@b:y", "m.room.member", "@b:y", `{"displayname":"B","membership":"join"}`, 9, last)
	show := func(id string, whole bool) {
		t.Helper()
		e := h.event(id)
		if !whole {
			e = redact.Strip(e)
		}
		if got, ok := h.View(id); !ok || !event.Same(got, e) || redact.Is(got) == whole {
			t.Errorf("View: %v, %+v", ok, got)
		}
	}
	redacts := func(sender, id string) string {
		return h.come(sender, "m.room.redaction", "-", `{"redacts":"`+id+`"}`, 9, y)
	}
	word := h.come("@a:x", "m.room.message", "-", `{"body":"1"}`, 9, y)
	other := h.come("@b:y", "m.room.message", "-", `{"body":"2"}`, 9, y)
	show(word, true)
	redacts("@b:y", word) // of another server, and without the level
	show(word, true)
	redacts("@b:x", word) // of the sender's server
	show(word, false)
	show(other, true)
	redacts("@b:x", other)
	show(other, true)
	redacts("@a:x", other) // with the level
	show(other, false)
	show(y, true)
	h.come("@a:x", "m.room.message", "-", `{"redacts":"`+y+`"}`, 9, y)
	show(y, true)
	h.come("@a:x", "m.room.redaction", "-", `{"redacts":["`+y+`"]}`, 9, y)
	show(y, true)
	by := redacts("@a:x", y)
	show(y, false)
	if e, ok := h.View(by); !ok || !event.Same(e, h.event(by)) {
		t.Error("View of a redaction")
	}
	rejected := h.come("@c:y", "m.room.message", "-", `{}`, 9, y)
	for _, id := range []string{rejected, "", "$x"} {
		if e, ok := h.View(id); ok || !reflect.DeepEqual(e, api.Event{}) {
			t.Errorf("View of %q", id)
		}
	}
}

// Redactions that aren't accepted remove nothing; the level counts in the state that they stand behind.
func TestViewLevels(t *testing.T) {
	h := begun(t)
	last := h.st.Room().Heads()[0]
	b := h.come("@b:y", "m.room.member", "@b:y", `{"membership":"join"}`, 9, last)
	word := h.come("@a:x", "m.room.message", "-", `{"body":"1"}`, 9, b)
	up := h.come("@a:x", "m.room.power_levels", "", `{"redact":30,"users":{"@a:x":100,"@b:y":30}}`, 10, b)
	whole := func() bool {
		e, ok := h.View(word)
		return ok && !redact.Is(e)
	}
	h.come("@c:x", "m.room.redaction", "-", `{"redacts":"`+word+`"}`, 9, up) // rejected, though of the same server
	h.come("@b:y", "m.room.redaction", "-", `{"redacts":"`+word+`"}`, 9, b)  // ahead of the levels
	if !whole() {
		t.Error("a redaction that is rejected, or too low where it stands, removes something")
	}
	h.come("@b:y", "m.room.redaction", "-", `{"redacts":"`+word+`"}`, 11, up)
	if whole() {
		t.Error("the level where it stands doesn't count")
	}
	h = open(t) // without levels, the creator has 100, and 50 is needed
	h.send("@a:x", "m.room.create", "", `{}`)
	h.send("@a:x", "m.room.member", "@a:x", `{"membership":"join"}`)
	last = h.send("@a:x", "m.room.join_rules", "", `{"join_rule":"public"}`)
	b = h.come("@b:y", "m.room.member", "@b:y", `{"membership":"join"}`, 9, last)
	word = h.come("@b:y", "m.room.message", "-", `{"body":"1"}`, 9, b)
	ours := h.come("@a:x", "m.room.message", "-", `{"body":"2"}`, 9, b)
	h.come("@b:y", "m.room.redaction", "-", `{"redacts":"`+ours+`"}`, 9, b)
	h.come("@a:x", "m.room.redaction", "-", `{"redacts":"`+word+`"}`, 9, b)
	if e, _ := h.View(ours); redact.Is(e) || whole() {
		t.Error("without levels")
	}
}

// A soft redaction removes nothing, and a soft event isn't shown.
func TestViewSoft(t *testing.T) {
	h := begun(t)
	last := h.st.Room().Heads()[0]
	b := h.come("@b:x", "m.room.member", "@b:x", `{"membership":"join"}`, 9, last)
	word := h.come("@a:x", "m.room.message", "-", `{"body":"1"}`, 9, b)
	h.come("@a:x", "m.room.member", "@b:x", `{"membership":"ban"}`, 9, b)
	soft := h.come("@b:x", "m.room.redaction", "-", `{"redacts":"`+word+`"}`, 9, b)
	if h.st.Room().Verdict(soft) != api.Soft {
		t.Fatal("it isn't soft")
	}
	if e, ok := h.View(word); !ok || redact.Is(e) {
		t.Error("a soft redaction removes something")
	}
	if _, ok := h.View(soft); ok {
		t.Error("a soft event is shown")
	}
	if ids, _, _ := h.Sync(0); slices.Contains(ids, soft) {
		t.Error("a soft event is in the stream")
	}
	if ids, _, _ := h.Messages(api.Rank{A: 99}, 99); slices.Contains(ids, soft) || len(ids) != len(h.st.Room().Stream()) {
		t.Error("a soft event is in the pages")
	}
}

func TestNil(t *testing.T) {
	var none *feed.Feed
	for i, f := range []*feed.Feed{none, feed.New(nil, secret, name)} {
		d := draft("@a:x", "m.room.create", "", `{}`)
		if e, err := f.Build(d); err != api.ErrNil || !reflect.DeepEqual(e, api.Event{}) {
			t.Errorf("feed %d: Build: %d", i, err)
		}
		if id, err := f.Send(api.Draft{}); err != api.ErrNil || id != "" {
			t.Errorf("feed %d: Send: %d", i, err)
		}
		_, at, ok := f.Messages(api.Rank{A: 9}, 9)
		_, ok2 := f.View("$x")
		if ok || ok2 || at != (api.Rank{}) || len(f.Members()) != 0 {
			t.Errorf("feed %d has something", i)
		}
	}
	if ids, next, err := none.Sync(0); err != api.ErrNil || len(ids) != 0 || next != 0 {
		t.Errorf("Sync: %d", err)
	}
}

func TestMemory(t *testing.T) {
	h := begun(t)
	d := draft("@a:x", "m.room.topic", "", `{"a":[1,{"b":2}]}`)
	id, err := h.Send(d)
	e, _ := h.Build(d)
	if err != api.OK {
		t.Fatal(err)
	}
	before, _ := event.Encode(h.event(id))
	built, _ := event.Encode(e)
	d.Content.Map[0].Val.List[0] = json.Num(9)
	d.Content.Map[0].Key = "z"
	if after, _ := event.Encode(h.event(id)); after != before {
		t.Error("what is written into the draft later is seen in the room")
	}
	if after, _ := event.Encode(e); after != built {
		t.Error("what is written into the draft later is seen in what was built")
	}
	e.Prev[0], e.Auth[0] = "written", "written"
	if again, err := h.Build(draft("@a:x", "m.room.topic", "", `{}`)); err != api.OK || again.Prev[0] == "written" {
		t.Error("what is built shares memory")
	}
}
