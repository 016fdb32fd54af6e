package resolve_test

import (
	"fmt"
	"math/rand"
	"slices"
	"testing"

	"hustings/api"
	"hustings/auth"
	"hustings/json"
	"hustings/pick"
	"hustings/resolve"
)

func parse(s string) api.Value {
	v, err := json.Parse(s)
	if err != api.OK {
		panic(s)
	}
	return v
}

func ev(kind, sender, key, content string, time int, auth ...string) api.Event {
	return api.Event{Room: "!r:x", Sender: sender, Type: kind, State: true, Key: key, Content: parse(content), Time: time, Auth: auth}
}

// room is a book and its model, filled alike, with the state behind each event.
type room struct {
	t      *testing.T
	book   *resolve.Book
	model  *model
	states map[string][]api.Slot
	also   []string // what the next events' Auth names, too
}

func newRoom(t *testing.T) *room {
	return &room{t, resolve.New(), newModel(), map[string][]api.Slot{"": nil}, nil}
}

func (r *room) add(id string, e api.Event, bad bool) {
	r.t.Helper()
	if err := r.book.Add(id, e, bad); err != api.OK {
		r.t.Fatalf("Add(%s): %d", id, err)
	}
	r.model.add(id, e, bad)
}

// put: an event behind another one, with what its Auth must name; it is bad if it isn't allowed.
func (r *room) put(id, behind, kind, sender, key, content string, time int) {
	r.t.Helper()
	e := ev(kind, sender, key, content, time)
	state := r.states[behind]
	e.State = kind != "m.room.message"
	e.Auth = append(pick.Select(e, state), r.also...)
	if kind == "m.room.create" {
		e.Prev = nil
	} else {
		e.Prev = []string{"$p"}
	}
	var events []api.Event
	for _, s := range state {
		events = append(events, r.model.events[s.ID])
	}
	bad := auth.Allowed(e, events) != api.OK
	r.add(id, e, bad)
	if !bad && e.State {
		state = pick.Put(state, api.Slot{Type: kind, Key: key, ID: id})
	}
	r.states[id] = state
}

// resolve: of the states behind some events; as the model has it, whatever their order, and whether they come twice.
func (r *room) resolve(ids ...string) []api.Slot {
	r.t.Helper()
	var states [][]api.Slot
	for _, id := range ids {
		states = append(states, r.states[id])
	}
	got, err := r.book.Resolve(states)
	if want := r.model.resolve(states); err != api.OK || !slices.Equal(got, want) {
		r.t.Fatalf("Resolve of %q: %v, %d; want %v", ids, got, err, want)
	}
	back := slices.Clone(states)
	slices.Reverse(back)
	again, _ := r.book.Resolve(append(back, states...))
	if !slices.Equal(again, got) {
		r.t.Fatalf("Resolve of %q in another order, and twice: %v, %v", ids, again, got)
	}
	return got
}

func (r *room) want(kind, key, id string, behind ...string) {
	r.t.Helper()
	got, _ := pick.Get(r.resolve(behind...), api.Pair{Type: kind, Key: key})
	if got != id {
		r.t.Errorf("behind %q: %s %s is %q, want %q", behind, kind, key, got, id)
	}
}

// begun: a room of @a:x, with levels, public join rules, and @b:x in it.
func begun(t *testing.T) *room {
	r := newRoom(t)
	r.put("create", "", "m.room.create", "@a:x", "", `{}`, 1)
	r.add("enter", ev("m.room.member", "@a:x", "@a:x", `{"membership":"join"}`, 2, "create"), false)
	r.states["enter"] = pick.Put(r.states["create"], api.Slot{Type: "m.room.member", Key: "@a:x", ID: "enter"})
	r.put("levels", "enter", "m.room.power_levels", "@a:x", "", `{"users":{"@a:x":100,"@b:x":50}}`, 3)
	r.put("public", "levels", "m.room.join_rules", "@a:x", "", `{"join_rule":"public"}`, 4)
	r.put("b", "public", "m.room.member", "@b:x", "@b:x", `{"membership":"join"}`, 5)
	return r
}

func TestBanFirst(t *testing.T) {
	r := begun(t)
	r.put("ban", "b", "m.room.member", "@a:x", "@b:x", `{"membership":"ban"}`, 20)
	r.put("topic", "b", "m.room.topic", "@b:x", "", `{}`, 10)
	r.want("m.room.topic", "", "", "ban", "topic")
	r.want("m.room.member", "@b:x", "ban", "ban", "topic")
	r.put("other", "b", "m.room.topic", "@a:x", "", `{}`, 9)
	r.want("m.room.topic", "", "other", "ban", "topic", "other")
	r.put("kick", "b", "m.room.member", "@a:x", "@b:x", `{"membership":"leave"}`, 20)
	r.want("m.room.topic", "", "", "kick", "topic")
	r.put("left", "b", "m.room.member", "@b:x", "@b:x", `{"membership":"leave"}`, 5)
	r.want("m.room.topic", "", "", "left", "topic") // not first, but earlier
	r.put("left later", "b", "m.room.member", "@b:x", "@b:x", `{"membership":"leave"}`, 50)
	r.want("m.room.topic", "", "topic", "left later", "topic")
}

// Levels, join rules and who is kicked count by the mightier sender, then the time, then the name.
func TestFirstOrder(t *testing.T) {
	r := begun(t)
	r.put("l1", "b", "m.room.power_levels", "@b:x", "", `{"users":{"@a:x":100,"@b:x":50},"invite":1}`, 1)
	r.put("l2", "b", "m.room.power_levels", "@a:x", "", `{"users":{"@a:x":100,"@b:x":50},"invite":2}`, 9)
	r.want("m.room.power_levels", "", "l1", "l1", "l2") // the mightier one comes first, so that the other stands over it
	r.put("l3", "b", "m.room.power_levels", "@a:x", "", `{"users":{"@a:x":100,"@b:x":40}}`, 9)
	r.want("m.room.power_levels", "", "l3", "l1", "l3") // but where the mightier one takes the right to
	r.put("j1", "b", "m.room.join_rules", "@a:x", "", `{"join_rule":"knock"}`, 30)
	r.put("j2", "b", "m.room.join_rules", "@a:x", "", `{"join_rule":"invite"}`, 31)
	r.want("m.room.join_rules", "", "j2", "j1", "j2")
	r.put("j0", "b", "m.room.join_rules", "@a:x", "", `{"join_rule":"private"}`, 31)
	r.want("m.room.join_rules", "", "j2", "j0", "j2")
}

// The rest goes by the mainline: what hangs on older levels comes first, whatever the time.
func TestMainline(t *testing.T) {
	r := begun(t)
	r.put("t1", "b", "m.room.topic", "@a:x", "", `{}`, 90)
	r.put("l2", "b", "m.room.power_levels", "@a:x", "", `{"users":{"@a:x":100,"@b:x":50},"invite":2}`, 9)
	r.put("t2", "l2", "m.room.topic", "@a:x", "", `{}`, 80)
	r.want("m.room.topic", "", "t2", "t1", "t2")
	r.put("l3", "l2", "m.room.power_levels", "@a:x", "", `{"users":{"@a:x":100,"@b:x":50},"invite":3}`, 10)
	r.put("t3", "l3", "m.room.topic", "@b:x", "", `{}`, 8)
	r.want("m.room.topic", "", "t3", "t1", "t2", "t3")
	r.want("m.room.topic", "", "t3", "t1", "t3")
	r.put("t4", "l3", "m.room.topic", "@a:x", "", `{}`, 8)
	r.want("m.room.topic", "", "t4", "t1", "t3", "t4") // of one time, by names
	r.put("m", "create", "m.room.name", "@a:x", "", `{}`, 1)
}

// Where the rest has events by which those of the states were allowed, these are checked too.
func TestChains(t *testing.T) {
	r := begun(t)
	r.put("kick b", "b", "m.room.member", "@a:x", "@b:x", `{"membership":"leave"}`, 11)
	r.put("back", "kick b", "m.room.member", "@b:x", "@b:x", `{"membership":"join"}`, 12)
	r.put("topic", "back", "m.room.topic", "@b:x", "", `{}`, 13)
	r.put("knock", "b", "m.room.join_rules", "@a:x", "", `{"join_rule":"knock"}`, 14)
	r.resolve("topic", "knock")
	r.put("away", "back", "m.room.member", "@b:x", "@b:x", `{"membership":"leave"}`, 15)
	r.resolve("away", "knock", "topic")
	r.resolve("away", "b")
	r.resolve("create", "away")
	r.resolve("", "away")
}

func TestBad(t *testing.T) {
	r := begun(t)
	r.put("t1", "b", "m.room.topic", "@a:x", "", `{}`, 1)
	r.put("t2", "b", "m.room.topic", "@a:x", "", `{}`, 2)
	r.want("m.room.topic", "", "t2", "t1", "t2")
	turn := func(id string, bad bool) {
		r.book.Turn(id, bad)
		r.model.bad[id] = bad
		if r.book.Bad(id) != bad {
			t.Errorf("Turn(%s, %v)", id, bad)
		}
	}
	turn("t2", true)
	r.want("m.room.topic", "", "t1", "t1", "t2")
	turn("t1", true)
	r.want("m.room.topic", "", "", "t1", "t2")
	turn("t2", false)
	r.want("m.room.topic", "", "t2", "t1", "t2")
	turn("levels", true) // alike, so it stays
	r.want("m.room.power_levels", "", "levels", "t1", "t2")
	r.book.Turn("nobody", true)
	if r.book.Bad("nobody") {
		t.Error("one that isn't there is bad")
	}
	if err := r.book.Add("nobody", ev("k", "@a:x", "", `{}`, 0), false); err != api.OK || r.book.Bad("nobody") {
		t.Error("one that was turned ahead of its coming")
	}
}

// Rooms by chance: several users do what they may, or not, behind whatever there is.
func TestByChance(t *testing.T) {
	rnd := rand.New(rand.NewSource(1))
	users := []string{"@a:x", "@b:x", "@c:y", "@d:y"}
	any := func(list ...string) string { return list[rnd.Intn(len(list))] }
	unlike := 0
	for range 400 {
		r := begun(t)
		ids := []string{"b", "b", "b"}
		for n := range 4 + rnd.Intn(30) {
			id, user := fmt.Sprintf("%c%02d", 'a'+rune(rnd.Intn(3)), n), users[rnd.Intn(4)]
			behind := ids[max(0, len(ids)-1-rnd.Intn(5))]
			kind, key, content := "m.room.topic", "", `{}`
			switch rnd.Intn(6) {
			case 0:
				kind, content = "m.room.power_levels", fmt.Sprintf(`{"invite":%d,"kick":%d,"users":{"@a:x":100,"%s":%d,"@b:x":%d}}`, rnd.Intn(60), rnd.Intn(60), any(users[2:]...), rnd.Intn(110), 40+rnd.Intn(70))
			case 1:
				kind, content = "m.room.join_rules", `{"join_rule":"`+any("public", "invite", "knock", "restricted")+`"}`
			case 2:
				kind, key, content = "m.room.member", user, `{"membership":"`+any("join", "join", "join", "leave")+`"}`
			case 3:
				kind, key, content = "m.room.member", any(users...), `{"membership":"`+any("leave", "ban", "invite", "")+`"}`
			case 4:
				key = any("", "k", user)
			case 5:
				kind = any("m.room.topic", "m.room.message")
			}
			r.also = nil
			if rnd.Intn(4) == 0 {
				r.also = []string{any(ids...), ids[len(ids)-1]}
			}
			if rnd.Intn(3) == 0 {
				user = "@a:x"
			}
			if kind == "m.room.member" && rnd.Intn(2) == 0 {
				key = user
			}
			r.put(id, behind, kind, user, key, content, rnd.Intn(8))
			ids = append(ids, id)
			if rnd.Intn(25) == 0 {
				r.book.Turn(id, true)
				r.model.bad[id] = true
			}
			if rnd.Intn(3) == 0 {
				some := []string{id, any(ids...), any(ids...), any(ids...)}[:2+rnd.Intn(3)]
				out := r.resolve(some...)
				if !slices.Equal(out, r.states[id]) {
					unlike++
				}
				kept(t, r, out, some)
			}
		}
		r.resolve(append(ids[3:], "create", "enter")...)
	}
	if unlike < 500 {
		t.Error("the test shows nothing")
	}
}

// kept: the answer is a state, has what is alike, and else but names of the states, or of their chains.
func kept(t *testing.T, r *room, out []api.Slot, ids []string) {
	t.Helper()
	var names []string
	for _, id := range ids {
		for _, s := range r.states[id] {
			names = append(names, s.ID)
			if !slices.ContainsFunc(ids, func(o string) bool { return !slices.Contains(r.states[o], s) }) && !slices.Contains(out, s) {
				t.Fatalf("%v is alike, and not in the answer", s)
			}
		}
	}
	chain := r.model.chain(names)
	for _, s := range out {
		if !slices.Contains(names, s.ID) && !chain[s.ID] {
			t.Fatalf("%v comes from nowhere", s)
		}
	}
	if !pick.Good(out) {
		t.Fatalf("%v is no state", out)
	}
}

func TestSame(t *testing.T) {
	r := begun(t)
	got, err := r.book.Resolve(nil)
	if err != api.OK || len(got) != 0 {
		t.Errorf("of no states: %v, %d", got, err)
	}
	got, err = r.book.Resolve([][]api.Slot{nil, {}})
	if err != api.OK || len(got) != 0 {
		t.Errorf("of empty states: %v, %d", got, err)
	}
	state := r.states["b"]
	for n := range 4 {
		got, err := r.book.Resolve(slices.Repeat([][]api.Slot{state}, n+1))
		if err != api.OK || !slices.Equal(got, state) {
			t.Errorf("of the same: %v, %d", got, err)
		}
	}
	r.book.Turn("public", true) // whether they are bad or not
	if got, _ := r.book.Resolve([][]api.Slot{state, state}); !slices.Equal(got, state) {
		t.Errorf("of the same, one of them bad: %v", got)
	}
}

func TestResolveErrors(t *testing.T) {
	r := begun(t)
	plain := ev("m.room.message", "@a:x", "", `{}`, 1, "create")
	plain.State = false
	r.add("plain", plain, false)
	s := func(kind, key, id string) api.Slot { return api.Slot{Type: kind, Key: key, ID: id} }
	good := r.states["b"]
	for i, bad := range [][]api.Slot{
		{s("m.room.create", "", "nobody")},
		{s("m.room.create", "", "")},
		{s("m.room.create", "k", "create")},
		{s("m.room.topic", "", "create")},
		{s("m.room.message", "", "plain")},
		{s("m.room.create", "", "create"), s("m.room.create", "", "create")},
		{s("m.room.power_levels", "", "levels"), s("m.room.create", "", "create")},
		{s("m.room.member", "@b:x", "enter")},
	} {
		for _, states := range [][][]api.Slot{{bad}, {good, bad}, {bad, good}, {bad, bad}, {nil, good, bad}} {
			if got, err := r.book.Resolve(states); err != api.ErrArg || len(got) != 0 {
				t.Errorf("case %d: %v, %d", i, got, err)
			}
		}
	}
}

func TestBook(t *testing.T) {
	b := resolve.New()
	e := ev("k", "@a:x", "", `{"n":1}`, 7)
	for i, c := range []struct {
		id   string
		auth []string
		bad  bool
		want api.Errno
	}{
		{"a", nil, false, api.OK}, {"a", nil, true, api.ErrTwice}, {"a", []string{"x"}, false, api.ErrTwice}, {"b", []string{"x"}, false, api.ErrGap}, {"b", []string{"b"}, false, api.ErrGap},
		{"b", []string{"a", "a"}, true, api.OK}, {"", []string{"b", "a"}, false, api.OK},
	} {
		e.Auth = c.auth
		if err := b.Add(c.id, e, c.bad); err != c.want {
			t.Errorf("case %d: Add: %d, want %d", i, err, c.want)
		}
	}
	for id, bad := range map[string]bool{"a": false, "b": true, "": false} {
		if got, ok := b.Get(id); !ok || got.Time != 7 || got.Type != "k" || b.Bad(id) != bad {
			t.Errorf("Get(%s): %+v, %v; Bad %v", id, got, ok, b.Bad(id))
		}
	}
	if got, _ := b.Get("b"); !slices.Equal(got.Auth, []string{"a", "a"}) {
		t.Errorf("Auth of b: %q", got.Auth)
	}
	if got, ok := b.Get("x"); ok || got.Type != "" || got.State || b.Bad("x") {
		t.Error("one that isn't there")
	}
	e.Auth = nil
	for i := 3; i < api.MaxEvents; i++ {
		b.Add(fmt.Sprint(i), e, false)
	}
	if err := b.Add("more", e, true); err != api.ErrMany || b.Bad("more") {
		t.Errorf("Add beyond MaxEvents: %d", err)
	}
	if err := b.Add("a", e, true); err != api.ErrTwice || b.Bad("a") {
		t.Errorf("Add of one that is there: %d", err)
	}
}

func TestNil(t *testing.T) {
	var b *resolve.Book
	if err := b.Add("a", api.Event{}, true); err != api.ErrNil {
		t.Errorf("Add: %d", err)
	}
	b.Turn("a", true)
	if got, ok := b.Get("a"); ok || got.Type != "" || b.Bad("a") {
		t.Error("a nil book has events")
	}
	if got, err := b.Resolve([][]api.Slot{{{ID: "x"}}}); err != api.ErrNil || len(got) != 0 {
		t.Errorf("Resolve: %d", err)
	}
}

func TestMemory(t *testing.T) {
	r := begun(t)
	r.put("t1", "b", "m.room.topic", "@a:x", "", `{}`, 1)
	r.put("t2", "b", "m.room.topic", "@a:x", "", `{}`, 2)
	one, two := slices.Clone(r.states["t1"]), slices.Clone(r.states["t2"])
	states := [][]api.Slot{one, two}
	first, _ := r.book.Resolve(states)
	want := slices.Clone(first)
	if !slices.Equal(one, r.states["t1"]) || !slices.Equal(two, r.states["t2"]) {
		t.Error("what was handed in was changed")
	}
	for i := range first {
		first[i].ID = "written"
	}
	if !slices.Equal(one, r.states["t1"]) || !slices.Equal(two, r.states["t2"]) {
		t.Error("the answer shares memory with what was handed in")
	}
	alone, _ := r.book.Resolve(states[:1])
	alone[0].ID = "written"
	if !slices.Equal(one, r.states["t1"]) {
		t.Error("the answer of one state shares memory with it")
	}
	for i := range one {
		one[i].ID = "written"
	}
	if again, _ := r.book.Resolve([][]api.Slot{r.states["t1"], r.states["t2"]}); !slices.Equal(again, want) {
		t.Error("what was handed in was kept")
	}
}

// Contents that can't be, and names beyond all reason: it ends.
func TestEnds(t *testing.T) {
	r := begun(t)
	odd := ev("m.room.power_levels", "@a:x", "", `{}`, -5, "enter", "create", "levels")
	odd.Content = api.Value{Kind: api.KindMap, Map: []api.Member{{Key: "users"}, {Key: "ban", Val: api.Value{Kind: api.KindNum, N: -1 << 63}}, {Key: "a"}}}
	r.book.Add("odd", odd, false)
	r.book.Resolve([][]api.Slot{{{Type: "m.room.power_levels", ID: "odd"}}, {{Type: "m.room.power_levels", ID: "levels"}}})
}
