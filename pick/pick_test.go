package pick_test

import (
	"fmt"
	"math/rand"
	"slices"
	"testing"

	"hustings/api"
	"hustings/auth"
	"hustings/json"
	"hustings/pick"
)

func slot(kind, key, id string) api.Slot { return api.Slot{Type: kind, Key: key, ID: id} }

func pair(kind, key string) api.Pair { return api.Pair{Type: kind, Key: key} }

func parse(s string) api.Value {
	v, err := json.Parse(s)
	if err != api.OK {
		panic(s)
	}
	return v
}

func ev(kind, sender, key, content string) api.Event {
	return api.Event{Room: "!r:x", Sender: sender, Type: kind, State: true, Key: key, Content: parse(content)}
}

func TestGood(t *testing.T) {
	for i, c := range []struct {
		state []api.Slot
		want  bool
	}{
		{nil, true}, {[]api.Slot{}, true}, {[]api.Slot{slot("", "", "")}, true},
		{[]api.Slot{slot("a", "b", "1"), slot("a", "c", "0")}, true},
		{[]api.Slot{slot("a", "z", "1"), slot("b", "a", "1")}, true},
		{[]api.Slot{slot("a", "", "1"), slot("a", "a", "1"), slot("aa", "", "1")}, true},
		{[]api.Slot{slot("z", "", "1"), slot("é", "", "1")}, true},
		{[]api.Slot{slot("a", "b", "1"), slot("a", "b", "2")}, false},
		{[]api.Slot{slot("a", "b", "1"), slot("a", "b", "1")}, false},
		{[]api.Slot{slot("a", "c", "1"), slot("a", "b", "2")}, false},
		{[]api.Slot{slot("b", "a", "1"), slot("a", "z", "2")}, false},
		{[]api.Slot{slot("a", "", "1"), slot("c", "", "1"), slot("b", "", "1")}, false},
	} {
		if got := pick.Good(c.state); got != c.want {
			t.Errorf("case %d: %v", i, got)
		}
	}
}

func TestGetPut(t *testing.T) {
	rnd := rand.New(rand.NewSource(1))
	for range 300 {
		want := map[api.Pair]string{}
		var state []api.Slot
		for n := range rnd.Intn(12) {
			s := slot(string(rune('a'+rnd.Intn(3))), string(rune('a'+rnd.Intn(3))), fmt.Sprint(n))
			before := slices.Clone(state)
			next := pick.Put(state, s)
			if !slices.Equal(state, before) {
				t.Fatal("Put changed what it was handed")
			}
			state = next
			want[pair(s.Type, s.Key)] = s.ID
		}
		if !pick.Good(state) || len(state) != len(want) {
			t.Fatalf("Put made %v of %v", state, want)
		}
		for a := 'a'; a < 'e'; a++ {
			for b := 'a'; b < 'e'; b++ {
				p := pair(string(a), string(b))
				id, ok := pick.Get(state, p)
				if w, there := want[p]; ok != there || id != w {
					t.Fatalf("Get of %v: %q, %v; want %q, %v", p, id, ok, w, there)
				}
			}
		}
	}
}

const third = `{"membership":"invite","third_party_invite":{"signed":{"token":"tok"}}}`

// needs: events, and what they need.
func needs() map[string]struct {
	e    api.Event
	want []api.Pair
} {
	c, p := pair("m.room.create", ""), pair("m.room.power_levels", "")
	j, m := pair("m.room.join_rules", ""), func(user string) api.Pair { return pair("m.room.member", user) }
	member := func(content string) api.Event { return ev("m.room.member", "@b:x", "@a:x", content) }
	type need = struct {
		e    api.Event
		want []api.Pair
	}
	return map[string]need{
		"create":                  {ev("m.room.create", "@a:x", "", `{}`), nil},
		"create of another key":   {ev("m.room.create", "@a:x", "k", `{"membership":"join"}`), nil},
		"message":                 {ev("m.room.message", "@a:x", "", third), []api.Pair{c, m("@a:x"), p}},
		"levels":                  {ev("m.room.power_levels", "@a:x", "", `{}`), []api.Pair{c, m("@a:x"), p}},
		"third party":             {ev("m.room.third_party_invite", "@a:x", "tok", `{}`), []api.Pair{c, m("@a:x"), p}},
		"join":                    {member(`{"membership":"join"}`), []api.Pair{c, j, m("@a:x"), m("@b:x"), p}},
		"own join":                {ev("m.room.member", "@a:x", "@a:x", `{"membership":"join"}`), []api.Pair{c, j, m("@a:x"), p}},
		"join via":                {member(`{"join_authorised_via_users_server":"@0:x","membership":"join"}`), []api.Pair{c, j, m("@0:x"), m("@a:x"), m("@b:x"), p}},
		"join via itself":         {member(`{"join_authorised_via_users_server":"@a:x","membership":"join"}`), []api.Pair{c, j, m("@a:x"), m("@b:x"), p}},
		"join via nobody":         {member(`{"join_authorised_via_users_server":"","membership":"join"}`), []api.Pair{c, j, m("@a:x"), m("@b:x"), p}},
		"join via no text":        {member(`{"join_authorised_via_users_server":["@0:x"],"membership":"join"}`), []api.Pair{c, j, m("@a:x"), m("@b:x"), p}},
		"join via what is none":   {member(`{"join_authorised_via_users_server":"zz","membership":"join"}`), []api.Pair{c, j, m("@a:x"), m("@b:x"), m("zz"), p}},
		"join by a third party":   {member(`{"membership":"join","third_party_invite":{"signed":{"token":"tok"}}}`), []api.Pair{c, j, m("@a:x"), m("@b:x"), p}},
		"invite":                  {member(`{"membership":"invite"}`), []api.Pair{c, j, m("@a:x"), m("@b:x"), p}},
		"invite via":              {member(`{"join_authorised_via_users_server":"@0:x","membership":"invite"}`), []api.Pair{c, j, m("@a:x"), m("@b:x"), p}},
		"invite by a third party": {member(third), []api.Pair{c, j, m("@a:x"), m("@b:x"), p, pair("m.room.third_party_invite", "tok")}},
		"invite by no token":      {member(`{"membership":"invite","third_party_invite":{"signed":{"token":""}}}`), []api.Pair{c, j, m("@a:x"), m("@b:x"), p}},
		"invite by a number":      {member(`{"membership":"invite","third_party_invite":{"signed":{"token":5}}}`), []api.Pair{c, j, m("@a:x"), m("@b:x"), p}},
		"invite by none":          {member(`{"membership":"invite","third_party_invite":{"token":"tok"}}`), []api.Pair{c, j, m("@a:x"), m("@b:x"), p}},
		"knock":                   {member(`{"membership":"knock"}`), []api.Pair{c, j, m("@a:x"), m("@b:x"), p}},
		"leave":                   {member(`{"membership":"leave","join_authorised_via_users_server":"@0:x"}`), []api.Pair{c, m("@a:x"), m("@b:x"), p}},
		"ban":                     {member(`{"membership":"ban"}`), []api.Pair{c, m("@a:x"), m("@b:x"), p}},
		"no membership":           {member(`{}`), []api.Pair{c, m("@a:x"), m("@b:x"), p}},
		"membership no text":      {member(`{"membership":["join"]}`), []api.Pair{c, m("@a:x"), m("@b:x"), p}},
		"another membership":      {member(`{"membership":"Join"}`), []api.Pair{c, m("@a:x"), m("@b:x"), p}},
	}
}

func TestNeeded(t *testing.T) {
	for name, n := range needs() {
		if got := pick.Needed(n.e); !slices.Equal(got, n.want) {
			t.Errorf("%s needs %v, want %v", name, got, n.want)
		}
	}
}

func TestSelect(t *testing.T) {
	for name, n := range needs() {
		var state []api.Slot
		var want []string
		for i, p := range n.want {
			if i%3 == 1 {
				continue // one that the state hasn't
			}
			id := fmt.Sprint("$", i)
			state = pick.Put(state, slot(p.Type, p.Key, id))
			want = append(want, id)
		}
		for _, s := range []api.Slot{slot("m.room.topic", "", "$t"), slot("m.room.member", "@zz:x", "$z"), slot("a", "", "$a"), slot("m.room.create", "k", "$k")} {
			state = pick.Put(state, s)
		}
		before := slices.Clone(state)
		got := pick.Select(n.e, state)
		if !slices.Equal(got, want) || !slices.Equal(state, before) {
			t.Errorf("%s: %v, want %v", name, got, want)
		}
		if len(pick.Select(n.e, nil)) != 0 {
			t.Errorf("%s: something of no state", name)
		}
	}
}

// as: an event with State of each pair.
func as(list []api.Pair) []api.Event {
	var out []api.Event
	for _, p := range list {
		out = append(out, ev(p.Type, "@a:x", p.Key, `{}`))
	}
	return out
}

func TestRight(t *testing.T) {
	for name, n := range needs() {
		isCreate := n.e.Type == "m.room.create"
		all := as(n.want)
		if !pick.Right(n.e, all) {
			t.Errorf("%s: all that it needs isn't right", name)
		}
		slices.Reverse(all)
		if !pick.Right(n.e, all) {
			t.Errorf("%s: the order counts", name)
		}
		if pick.Right(n.e, nil) != isCreate {
			t.Errorf("%s: without any", name)
		}
		if pick.Right(n.e, append(slices.Clone(all), ev("m.room.topic", "@a:x", "", `{}`))) {
			t.Errorf("%s: with one that it doesn't need", name)
		}
		if pick.Right(n.e, append(slices.Clone(all), ev("m.room.create", "@a:x", "k", `{}`))) {
			t.Errorf("%s: with a create of another key", name)
		}
		for i, x := range all {
			twice := append(slices.Clone(all), x)
			twice[len(all)].Sender = "@other:x"
			if pick.Right(n.e, twice) {
				t.Errorf("%s: %s twice", name, x.Type)
			}
			plain := slices.Clone(all)
			plain[i].State = false
			if pick.Right(n.e, plain) {
				t.Errorf("%s: %s without State", name, x.Type)
			}
			fewer := slices.Delete(slices.Clone(all), i, i+1)
			if pick.Right(n.e, fewer) != (x.Type != "m.room.create") {
				t.Errorf("%s: without %s", name, x.Type)
			}
		}
		if isCreate && pick.Right(n.e, as([]api.Pair{pair("m.room.create", "")})) {
			t.Error("a create behind a create")
		}
	}
}

// Of a state just those of needed pairs decide whether an event is allowed.
func TestNeededDecide(t *testing.T) {
	rnd := rand.New(rand.NewSource(2))
	users := []string{"@a:x", "@b:x", "@c:y"}
	words := []string{"join", "invite", "leave", "ban", "knock"}
	rules := []string{"public", "invite", "knock", "restricted", "knock_restricted"}
	any := func(list []string) string { return list[rnd.Intn(len(list))] }
	content := func() string {
		via := ""
		if rnd.Intn(2) == 0 {
			via = `,"join_authorised_via_users_server":"` + any(users) + `"`
		}
		return `{"membership":"` + any(words) + `"` + via + `}`
	}
	allowed := 0
	for range 30000 {
		st := []api.Event{ev("m.room.create", "@a:x", "", []string{`{}`, `{"m.federate":false}`}[rnd.Intn(2)])}
		for _, u := range users {
			st = append(st, ev("m.room.member", any(users), u, content()))
		}
		st = append(st, ev("m.room.join_rules", "@a:x", "", `{"join_rule":"`+any(rules)+`"}`), ev("m.room.topic", "@a:x", "", `{}`))
		if rnd.Intn(2) == 0 {
			st = append(st, ev("m.room.power_levels", "@a:x", "", fmt.Sprintf(`{"users":{"%s":%d,"@a:x":60}}`, any(users[1:]), rnd.Intn(100))))
		}
		rnd.Shuffle(len(st), func(i, j int) { st[i], st[j] = st[j], st[i] })
		st = st[:len(st)-rnd.Intn(2)]
		e := ev(any([]string{"m.room.member", "m.room.member", "m.room.topic", "m.room.power_levels", "m.room.create"}), any(users), "", content())
		if e.Type == "m.room.member" {
			e.Key = any(users)
		}
		needed := pick.Needed(e)
		var few []api.Event
		for _, x := range st {
			if slices.Contains(needed, pair(x.Type, x.Key)) {
				few = append(few, x)
			}
		}
		got := auth.Allowed(e, few)
		if want := auth.Allowed(e, st); got != want {
			t.Fatalf("%s of %s by %s %v: %d by what it needs, %d by all", e.Type, e.Key, e.Sender, e.Content, got, want)
		}
		if got == api.OK {
			allowed++
		}
	}
	if allowed < 1000 {
		t.Error("the test shows nothing")
	}
}

func TestMemory(t *testing.T) {
	room := make([]api.Slot, 2, 8)
	room[0], room[1] = slot("a", "", "1"), slot("c", "", "2")
	for _, s := range []api.Slot{slot("b", "", "3"), slot("d", "", "3"), slot("", "", "3"), slot("a", "", "3"), slot("c", "", "3")} {
		out := pick.Put(room, s)
		for i := range out {
			out[i].ID = "written"
		}
		if room[0].ID != "1" || room[1].ID != "2" || room[:3][2] != (api.Slot{}) {
			t.Fatalf("Put of %v shares memory with what it was handed", s)
		}
	}
	state := pick.Put(room, slot("m.room.create", "", "$c"))
	e := ev("m.room.message", "@a:x", "", `{}`)
	one, two := pick.Needed(e), pick.Needed(e)
	one[0].Type = "written"
	if two[0].Type != "m.room.create" || pick.Needed(e)[0].Type != "m.room.create" {
		t.Error("two answers of Needed share memory")
	}
	ids := pick.Select(e, state)
	ids[0] = "written"
	if again := pick.Select(e, state); again[0] != "$c" {
		t.Error("two answers of Select share memory")
	}
	bad := []api.Slot{slot("b", "", "1"), slot("a", "", "2"), slot("b", "", "3")}
	for _, k := range []string{"a", "b", "c"} { // no state: nothing is promised, but that they end
		pick.Get(bad, pair(k, ""))
		pick.Put(bad, slot(k, "", "x"))
	}
	pick.Select(e, bad)
}
