package auth_test

import (
	"fmt"
	"slices"
	"strings"
	"testing"

	"hustings/api"
	"hustings/auth"
	"hustings/event"
	"hustings/json"
	"hustings/letters"
	"hustings/seal"
	"hustings/sign"
)

func parse(s string) api.Value {
	v, err := json.Parse(s)
	if err != api.OK {
		panic(s)
	}
	return v
}

func ev(kind, sender, key, content string) api.Event {
	return api.Event{Room: "!r:x", Sender: sender, Type: kind, State: true, Key: key, Content: parse(content), Hash: strings.Repeat("A", 43), Prev: []string{"$" + strings.Repeat("A", 43)}}
}

func message(sender string) api.Event {
	e := ev("m.room.message", sender, "", `{}`)
	e.State = false
	return e
}

func create(content string) api.Event {
	e := ev("m.room.create", "@a:x", "", content)
	e.Prev = nil
	return e
}

func member(sender, user, membership string) api.Event {
	return ev("m.room.member", sender, user, `{"membership":"`+membership+`"}`)
}

func levels(content string) api.Event { return ev("m.room.power_levels", "@a:x", "", content) }

func rule(name string) api.Event {
	return ev("m.room.join_rules", "@a:x", "", `{"join_rule":"`+name+`"}`)
}

// stands: the events that make a user stand so to the room.
func stands(user, membership string) []api.Event {
	if membership == "" {
		return nil
	}
	return []api.Event{member(user, user, membership)}
}

func state(parts ...any) []api.Event {
	var out []api.Event
	for _, p := range parts {
		switch x := p.(type) {
		case api.Event:
			out = append(out, x)
		case []api.Event:
			out = append(out, x...)
		}
	}
	return out
}

func expect(t *testing.T, what string, e api.Event, st []api.Event, want bool) {
	t.Helper()
	got := auth.Allowed(e, st)
	if got != api.OK && got != api.ErrAuth || (got == api.OK) != want {
		t.Errorf("%s: %d, want allowed %v", what, got, want)
	}
}

var memberships = []string{"", "join", "invite", "leave", "ban", "knock", "other"}

var joinRules = []string{"", "public", "invite", "knock", "restricted", "knock_restricted", "private", "other"}

func rules(name string) []api.Event {
	if name == "" {
		return nil
	}
	return []api.Event{rule(name)}
}

func in(s string, list ...string) bool { return slices.Contains(list, s) }

func TestFind(t *testing.T) {
	plain := ev("k", "@a:x", "", `{"n":0}`)
	plain.State = false
	st := state(plain, ev("k", "@a:x", "b", `{"n":1}`), ev("k", "@a:x", "", `{"n":2}`), ev("k", "@a:x", "", `{"n":3}`), ev("l", "@a:x", "", `{"n":4}`))
	for _, c := range []struct {
		kind, key string
		n         int
	}{{"k", "", 2}, {"k", "b", 1}, {"l", "", 4}} {
		e, ok := auth.Find(st, c.kind, c.key)
		if n, _ := json.Get(e.Content, "n"); !ok || n.N != c.n {
			t.Errorf("Find(%s, %s): %d, %v", c.kind, c.key, n.N, ok)
		}
	}
	for _, c := range [][2]string{{"k", "c"}, {"m", ""}, {"", ""}, {"l", "b"}} {
		if e, ok := auth.Find(st, c[0], c[1]); ok || e.Type != "" || e.State || e.Sender != "" {
			t.Errorf("Find(%s, %s): %+v", c[0], c[1], e)
		}
	}
	if _, ok := auth.Find(nil, "k", ""); ok {
		t.Error("Find in no state")
	}
}

func TestMemberRule(t *testing.T) {
	for content, want := range map[string]string{`{"membership":"join"}`: "join", `{"membership":"what"}`: "what", `{"membership":""}`: "leave", `{}`: "leave", `{"membership":5}`: "leave", `{"membership":["join"]}`: "leave", `{"membership":null}`: "leave"} {
		st := state(ev("m.room.member", "@b:x", "@c:x", content), member("@c:x", "@c:x", "ban"))
		if got := auth.Member(st, "@c:x"); got != want {
			t.Errorf("Member by %s: %s", content, got)
		}
		if auth.Member(st, "@b:x") != "leave" {
			t.Error("the membership of a sender")
		}
	}
	for content, want := range map[string]string{`{"join_rule":"public"}`: "public", `{"join_rule":"what"}`: "what", `{"join_rule":""}`: "invite", `{}`: "invite", `{"join_rule":5}`: "invite", `{"join_rule":{"a":1}}`: "invite"} {
		if got := auth.Rule(state(ev("m.room.join_rules", "@b:x", "x", `{"join_rule":"knock"}`), ev("m.room.join_rules", "@b:x", "", content))); got != want {
			t.Errorf("Rule by %s: %s", content, got)
		}
	}
	if auth.Rule(nil) != "invite" || auth.Member(nil, "@a:x") != "leave" {
		t.Error("no state")
	}
}

func TestLevel(t *testing.T) {
	pl := levels(`{"users":{"@a:x":7,"@b:x":9},"users_default":3}`)
	for _, c := range []struct {
		st   []api.Event
		user string
		want int
	}{
		{state(create(`{}`)), "@a:x", 100}, {state(create(`{}`)), "@b:x", 0},
		{state(create(`{}`), pl), "@a:x", 7}, {state(pl), "@b:x", 9}, {state(pl), "@c:x", 3},
		{nil, "@a:x", 0}, {state(ev("m.room.power_levels", "@a:x", "k", `{"users_default":3}`), create(`{}`)), "@b:x", 0},
		{state(create(`{"creator":"@b:x"}`)), "@b:x", 0},
	} {
		if got := auth.Level(c.st, c.user); got != c.want {
			t.Errorf("Level of %s: %d, want %d", c.user, got, c.want)
		}
	}
}

func TestCreate(t *testing.T) {
	turned := func(turn func(e *api.Event)) api.Event {
		e := create(`{}`)
		turn(&e)
		return e
	}
	for _, st := range [][]api.Event{nil, state(create(`{}`), member("@a:x", "@a:x", "ban")), state(create(`{"m.federate":false}`))} {
		expect(t, "a create", create(`{}`), st, true)
		expect(t, "version 11", create(`{"room_version":"11","m.federate":false}`), st, true)
		for _, v := range []string{`"10"`, `"1"`, `""`, `11`, `null`, `["11"]`, `"11 "`} {
			expect(t, "version "+v, create(`{"room_version":`+v+`}`), st, false)
		}
		expect(t, "with Prev", turned(func(e *api.Event) { e.Prev = []string{"$x"} }), st, false)
		expect(t, "with Auth", turned(func(e *api.Event) { e.Auth = []string{"$x"} }), st, true)
		expect(t, "with a key", turned(func(e *api.Event) { e.Key = "k" }), st, false)
		expect(t, "with the sender as key", turned(func(e *api.Event) { e.Key = "@a:x" }), st, false)
		expect(t, "no state event", turned(func(e *api.Event) { e.State = false }), st, false)
		expect(t, "of another server", turned(func(e *api.Event) { e.Sender = "@a:y" }), st, false)
		expect(t, "of another port", turned(func(e *api.Event) { e.Sender = "@a:x:1" }), st, false)
	}
}

func TestFederate(t *testing.T) {
	for content, shut := range map[string]bool{`{}`: false, `{"m.federate":true}`: false, `{"m.federate":false}`: true, `{"m.federate":"false"}`: false, `{"m.federate":0}`: false, `{"m.federate":null}`: false} {
		st := state(create(content), rule("public"), member("@b:y", "@b:y", "join"), member("@b:x", "@b:x", "join"))
		expect(t, content+": a message of another server", message("@b:y"), st, !shut)
		expect(t, content+": a join of another server", member("@c:y", "@c:y", "join"), st, !shut)
		expect(t, content+": a leave of another server", member("@b:y", "@b:y", "leave"), st, !shut)
		expect(t, content+": a message of the same", message("@b:x"), st, true)
		expect(t, content+": an invitation to another server", member("@b:x", "@c:y", "invite"), st, true)
	}
	expect(t, "no create", message("@b:x"), state(member("@b:x", "@b:x", "join")), false)
	expect(t, "no create, a join", member("@b:x", "@b:x", "join"), state(rule("public")), false)
	other := create(`{}`)
	other.Key = "k"
	expect(t, "a create of another key", message("@b:x"), state(other, member("@b:x", "@b:x", "join")), false)
}

func TestFirstJoin(t *testing.T) {
	made := create(`{}`)
	name := seal.Name(made)
	joins := func(sender, user string, prev ...string) api.Event {
		e := member(sender, user, "join")
		e.Prev = prev
		return e
	}
	st := state(made)
	expect(t, "the creator's join", joins("@a:x", "@a:x", name), st, true)
	expect(t, "the creator's join, banned", joins("@a:x", "@a:x", name), state(made, member("@b:x", "@a:x", "ban")), true)
	expect(t, "another's join", joins("@b:x", "@b:x", name), st, false)
	expect(t, "another joins the creator", joins("@b:x", "@a:x", name), st, false)
	expect(t, "the creator joins another", joins("@a:x", "@b:x", name), st, false)
	expect(t, "with two Prev", joins("@a:x", "@a:x", name, name), st, false)
	expect(t, "without Prev", joins("@a:x", "@a:x"), st, false)
	expect(t, "with another Prev", joins("@a:x", "@a:x", "$"+strings.Repeat("A", 43)), st, false)
	broken := made
	broken.Hash = ""
	expect(t, "of a create without a name", joins("@a:x", "@a:x", ""), state(broken), false)
}

func TestJoin(t *testing.T) {
	for _, was := range memberships {
		for _, r := range joinRules {
			for _, via := range []string{"", `"@v:x"`, `"@w:x"`, `"@u:x"`, `""`, `5`, `["@v:x"]`} {
				st := state(create(`{}`), levels(`{"invite":10,"users":{"@v:x":10,"@u:x":10,"@w:x":9}}`), member("@v:x", "@v:x", "join"), member("@w:x", "@w:x", "join"), rules(r), stands("@b:y", was))
				content := `{"membership":"join"}`
				if via != "" {
					content = `{"join_authorised_via_users_server":` + via + `,"membership":"join"}`
				}
				e := ev("m.room.member", "@b:y", "@b:y", content)
				what := fmt.Sprintf("a join of %q by the rule %q via %s", was, r, via)
				limited := in(r, "restricted", "knock_restricted")
				want := was != "ban" && (r == "public" || was == "join" || was == "invite" && (in(r, "", "invite", "knock") || limited) || was != "invite" && limited && via == `"@v:x"`)
				expect(t, what, e, st, want)
				e.Sender = "@v:x"
				expect(t, what+" by another", e, st, false)
			}
		}
	}
}

func TestInvite(t *testing.T) {
	for _, mine := range memberships {
		for _, was := range memberships {
			for _, level := range []int{9, 10, 11} {
				st := state(create(`{}`), levels(fmt.Sprintf(`{"invite":10,"users":{"@c:y":99,"@b:x":%d}}`, level)), stands("@b:x", mine), stands("@c:y", was))
				want := mine == "join" && !in(was, "join", "ban") && level >= 10
				expect(t, fmt.Sprintf("an invitation of %q by %q with %d", was, mine, level), member("@b:x", "@c:y", "invite"), st, want)
			}
		}
	}
	expect(t, "without levels", member("@b:x", "@c:y", "invite"), state(create(`{}`), member("@b:x", "@b:x", "join")), true)
	expect(t, "of oneself", member("@b:x", "@b:x", "invite"), state(create(`{}`), member("@b:x", "@b:x", "join")), false)
}

func TestLeave(t *testing.T) {
	for _, was := range memberships {
		st := state(create(`{}`), stands("@b:x", was))
		expect(t, "a leave of "+was, member("@b:x", "@b:x", "leave"), st, in(was, "join", "invite", "knock"))
	}
	for _, mine := range memberships {
		for _, was := range memberships {
			for _, ban := range []int{20, 5} {
				for level := 9; level <= 21; level++ {
					for _, theirs := range []int{0, 9, 10, 20, 21} {
						st := state(create(`{}`), levels(fmt.Sprintf(`{"ban":%d,"kick":10,"users":{"@b:x":%d,"@c:y":%d}}`, ban, level, theirs)), stands("@b:x", mine), stands("@c:y", was))
						want := mine == "join" && level >= 10 && theirs < level && (was != "ban" || level >= ban)
						expect(t, fmt.Sprintf("a kick of %q %d by %q %d, ban %d", was, theirs, mine, level, ban), member("@b:x", "@c:y", "leave"), st, want)
					}
				}
			}
		}
	}
}

func TestBan(t *testing.T) {
	for _, mine := range memberships {
		for _, was := range memberships {
			for level := 9; level <= 12; level++ {
				for _, theirs := range []int{0, 9, 10, 11, 12} {
					st := state(create(`{}`), levels(fmt.Sprintf(`{"ban":10,"kick":99,"users":{"@b:x":%d,"@c:y":%d}}`, level, theirs)), stands("@b:x", mine), stands("@c:y", was))
					want := mine == "join" && level >= 10 && theirs < level
					expect(t, fmt.Sprintf("a ban of %q %d by %q %d", was, theirs, mine, level), member("@b:x", "@c:y", "ban"), st, want)
				}
			}
		}
	}
	expect(t, "of oneself", member("@a:x", "@a:x", "ban"), state(create(`{}`), member("@a:x", "@a:x", "join")), false)
	expect(t, "by the creator, without levels", member("@a:x", "@b:x", "ban"), state(create(`{}`), member("@a:x", "@a:x", "join")), true)
	expect(t, "by another, without levels", member("@b:x", "@c:x", "ban"), state(create(`{}`), member("@b:x", "@b:x", "join")), false)
}

func TestKnock(t *testing.T) {
	for _, was := range memberships {
		for _, r := range joinRules {
			st := state(create(`{}`), rules(r), stands("@b:y", was))
			want := in(r, "knock", "knock_restricted") && !in(was, "ban", "invite", "join")
			expect(t, fmt.Sprintf("a knock of %q by the rule %q", was, r), member("@b:y", "@b:y", "knock"), st, want)
			expect(t, "a knock for another", member("@a:x", "@b:y", "knock"), append(st, member("@a:x", "@a:x", "join")), false)
		}
	}
}

func TestOtherMembers(t *testing.T) {
	st := state(create(`{}`), rule("public"), member("@a:x", "@a:x", "join"))
	for _, content := range []string{`{}`, `{"membership":""}`, `{"membership":"Join"}`, `{"membership":5}`, `{"membership":["join"]}`, `{"membership":"other"}`, `{"member":"join"}`} {
		expect(t, content, ev("m.room.member", "@a:x", "@a:x", content), st, false)
	}
	for _, key := range []string{"", "a", "@A:x", "@a", "a:x", "!r:x"} {
		e := member(key, key, "join")
		expect(t, "the key "+key, e, append(st, member(key, key, "join")), false)
	}
	e := member("@a:x", "@a:x", "join")
	e.State = false
	expect(t, "no state event", e, st, false)
	e.Key = ""
	expect(t, "no state event, and no key", e, st, false)
}

// signedBy: a member signed for a token and a user, signed by a seed.
func signedBy(seed byte, token, user string) api.Value {
	v := json.Map(api.Member{Key: "mxid", Val: json.Text(user)}, api.Member{Key: "token", Val: json.Text(token)})
	msg, _ := json.Canon(v)
	sig := sign.Sign([32]byte{seed}, []byte(msg))
	return json.Put(v, "signatures", parse(`{"id.org":{"ed25519:0":"`+letters.Encode(sig[:], false)+`"}}`))
}

func keyOf(seed byte) string {
	key := sign.Public([32]byte{seed})
	return `"` + letters.Encode(key[:], false) + `"`
}

func third(sender, token, content string) api.Event {
	return ev("m.room.third_party_invite", sender, token, content)
}

func inviteBy(by api.Value) api.Event {
	e := member("@b:x", "@c:y", "invite")
	e.Content = json.Put(e.Content, "third_party_invite", by)
	return e
}

func bySigned(signed api.Value) api.Event {
	return inviteBy(json.Map(api.Member{Key: "display_name", Val: json.Text("c")}, api.Member{Key: "signed", Val: signed}))
}

func TestThirdPartyKeys(t *testing.T) {
	signed := signedBy(1, "tok", "@c:y")
	for content, want := range map[string]bool{
		`{"public_key":` + keyOf(1) + `}`:                   true,
		`{"public_key":` + keyOf(2) + `}`:                   false,
		`{"public_keys":[{"public_key":` + keyOf(1) + `}]}`: true,
		`{"public_key":` + keyOf(2) + `,"public_keys":[{"public_key":` + keyOf(3) + `},{"public_key":` + keyOf(1) + `}]}`: true,
		`{"public_key":` + keyOf(1) + `,"public_keys":[{"public_key":` + keyOf(3) + `}]}`:                                 true,
		`{"public_key":5,"public_keys":[5,{"public_key":"x"},{"key":` + keyOf(1) + `},{"public_key":` + keyOf(1) + `}]}`:  true,
		`{"public_keys":{"public_key":` + keyOf(1) + `}}`:                                                                 false,
		`{"public_keys":[` + keyOf(1) + `]}`:                                                                              false,
		`{"public_keys":[{"key":` + keyOf(1) + `}]}`:                                                                      false,
		`{"public_key":[` + keyOf(1) + `]}`:                                                                               false,
		`{}`:                                                                                                              false,
	} {
		st := state(create(`{}`), third("@b:x", "tok", content))
		expect(t, "keys "+content, bySigned(signed), st, want)
	}
}

// Keys and signatures are told in the plain alphabet, not in that for URLs.
func TestThirdPartyLetters(t *testing.T) {
	forURL := strings.NewReplacer("+", "-", "/", "_")
	keys, sigs := 0, 0
	for seed := range byte(20) {
		signed, key := signedBy(seed, "tok", "@c:y"), keyOf(seed)
		st := state(create(`{}`), third("@b:x", "tok", `{"public_key":`+key+`}`))
		expect(t, "plain letters", bySigned(signed), st, true)
		if other := forURL.Replace(key); other != key {
			keys++
			for _, content := range []string{`{"public_key":` + other + `}`, `{"public_keys":[{"public_key":` + other + `}]}`} {
				expect(t, "a key for URLs", bySigned(signed), state(create(`{}`), third("@b:x", "tok", content)), false)
			}
		}
		text, _ := json.Canon(signed)
		if other := forURL.Replace(text); other != text {
			sigs++
			expect(t, "a signature for URLs", bySigned(parse(other)), st, false)
		}
	}
	if keys == 0 || sigs == 0 {
		t.Error("the test shows nothing")
	}
}

func TestThirdPartyInvite(t *testing.T) {
	content := `{"public_key":` + keyOf(1) + `}`
	signed := signedBy(1, "tok", "@c:y")
	asked := third("@b:x", "tok", content)
	st := state(create(`{}`), asked)
	for _, mine := range memberships {
		for _, was := range memberships {
			expect(t, fmt.Sprintf("by %q for %q", mine, was), bySigned(signed), append(append(state(st), stands("@b:x", mine)...), stands("@c:y", was)...), was != "ban")
		}
	}
	expect(t, "whatever the level", bySigned(signed), append(st, levels(`{"invite":99}`)), true)
	expect(t, "asked by another", bySigned(signed), state(create(`{}`), third("@a:x", "tok", content)), false)
	expect(t, "not asked", bySigned(signed), state(create(`{}`)), false)
	expect(t, "of another token", bySigned(signed), state(create(`{}`), third("@b:x", "token", content)), false)
	expect(t, "of no token", bySigned(signedBy(1, "", "@c:y")), state(create(`{}`), third("@b:x", "", content)), false)
	expect(t, "for another user", bySigned(signedBy(1, "tok", "@d:y")), st, false)
	other := bySigned(signed)
	other.Sender = "@d:x"
	expect(t, "by another sender", other, append(st, member("@d:x", "@d:x", "join")), false)
	joined := state(st, member("@b:x", "@b:x", "join")) // who could invite without a third party
	for i, by := range []api.Value{{}, json.Text("x"), json.List(), json.Map(), json.Map(api.Member{Key: "signed"}), parse(`{"signed":"x"}`), parse(`{"signed":{"mxid":"@c:y","token":["tok"]}}`), parse(`{"signed":{"token":"tok"}}`)} {
		expect(t, fmt.Sprintf("by a word that is none, %d", i), inviteBy(by), joined, false)
	}
	expect(t, "without a third party", member("@b:x", "@c:y", "invite"), joined, true)
}

func TestThirdPartySignatures(t *testing.T) {
	st := state(create(`{}`), third("@b:x", "tok", `{"public_key":`+keyOf(1)+`}`))
	signed := signedBy(1, "tok", "@c:y")
	right, _ := json.Get(signed, "signatures")
	sig := right.Map[0].Val.Map[0].Val.S
	for sigs, want := range map[string]bool{
		`{"a":{"k":"` + sig + `"}}`:                                     true,
		`{"a":{"k":"x","l":5},"b":{"m":"` + sig + `"}}`:                 true,
		`{"a":5,"b":{"l":[],"m":"` + sig + `"}}`:                        true,
		`{"a":{"k":"` + letters.Encode(make([]byte, 64), false) + `"}}`: false,
		`{"a":{"k":"` + sig + `A"}}`:                                    false,
		`{"a":{"k":"` + sig[:84] + `"}}`:                                false,
		`{"a":{"k":["` + sig + `"]}}`:                                   false,
		`{"a":"` + sig + `"}`:                                           false,
		`["` + sig + `"]`:                                               false,
		`"` + sig + `"`:                                                 false,
		`{"a":{}}`:                                                      false, `{}`: false, `null`: false,
	} {
		expect(t, "signatures "+sigs, bySigned(json.Put(signed, "signatures", parse(sigs))), st, want)
	}
	expect(t, "no signatures", bySigned(json.Drop(signed, "signatures")), st, false)
	expect(t, "a member more than was signed", bySigned(json.Put(signed, "more", json.Num(1))), st, false)
	full := json.Put(signed, "more", json.List(json.Num(1)))
	msg, _ := json.Canon(json.Drop(full, "signatures"))
	all := sign.Sign([32]byte{1}, []byte(msg))
	full = json.Put(full, "signatures", parse(`{"a":{"k":"`+letters.Encode(all[:], false)+`"}}`))
	expect(t, "a member more that was signed", bySigned(full), st, true)
}

func TestSaying(t *testing.T) {
	for _, mine := range memberships {
		st := state(create(`{}`), rule("public"), levels(`{"users":{"@b:x":100}}`), stands("@b:x", mine))
		for _, e := range []api.Event{message("@b:x"), ev("m.room.topic", "@b:x", "", `{}`), third("@b:x", "tok", `{}`), ev("m.room.power_levels", "@b:x", "", `{"users":{"@b:x":100}}`), ev("m.room.join_rules", "@b:x", "", `{}`), ev("", "@b:x", "", `{}`)} {
			expect(t, fmt.Sprintf("%s of %q", e.Type, mine), e, st, mine == "join")
		}
	}
	for level := 4; level <= 12; level++ {
		st := state(create(`{}`), member("@b:x", "@b:x", "join"), levels(fmt.Sprintf(`{"events":{"m.room.third_party_invite":99,"six":6},"events_default":5,"invite":8,"state_default":10,"users":{"@b:x":%d}}`, level)))
		expect(t, fmt.Sprintf("a message by %d", level), message("@b:x"), st, level >= 5)
		expect(t, fmt.Sprintf("a state event by %d", level), ev("k", "@b:x", "", `{}`), st, level >= 10)
		expect(t, fmt.Sprintf("a type that is told by %d", level), ev("six", "@b:x", "", `{}`), st, level >= 6)
		expect(t, fmt.Sprintf("a third party's invitation by %d", level), third("@b:x", "tok", `{}`), st, level >= 8)
		expect(t, fmt.Sprintf("one for another's key by %d", level), third("@b:x", "@c:x", `{}`), st, level >= 8)
	}
	st := state(create(`{}`), member("@b:x", "@b:x", "join"))
	for key, want := range map[string]bool{"": true, "@b:x": true, "@c:x": false, "@": false, "@b:x ": false, "b": true, "x@c:x": true, "@@": false} {
		expect(t, "the key "+key, ev("k", "@b:x", key, `{}`), st, want)
	}
}

func TestLevelsEvent(t *testing.T) {
	first := state(create(`{}`), member("@b:x", "@b:x", "join"), member("@a:x", "@a:x", "join"))
	pl := func(content string) api.Event { return ev("m.room.power_levels", "@b:x", "", content) }
	expect(t, "the first levels, whatever they are", pl(`{"users":{"@b:x":1000}}`), first, true)
	expect(t, "the first levels, that can't be", pl(`{"users":{"b":1}}`), first, false)
	expect(t, "the first levels, that can't be", pl(`{"ban":"5"}`), first, false)
	now := append(first, levels(`{"users":{"@a:x":100,"@b:x":50},"users_default":0}`))
	for content, want := range map[string]bool{
		`{"users":{"@a:x":100,"@b:x":50},"users_default":0}`:            true,
		`{"users":{"@a:x":100,"@b:x":50,"@c:x":50},"users_default":0}`:  true,
		`{"users":{"@a:x":100,"@b:x":50,"@c:x":51},"users_default":0}`:  false,
		`{"users":{"@a:x":99,"@b:x":50},"users_default":0}`:             false,
		`{"users":{"@b:x":50},"users_default":0}`:                       false,
		`{"users":{"@a:x":100,"@b:x":51},"users_default":0}`:            false,
		`{"users":{"@a:x":100,"@b:x":3},"users_default":0}`:             true,
		`{"ban":51,"users":{"@a:x":100,"@b:x":50},"users_default":0}`:   false,
		`{"ban":"5","users":{"@a:x":100,"@b:x":50},"users_default":0}`:  false,
		`{"users":{"@a:x":100,"@b:x":50,"c":1},"users_default":0}`:      false,
		`{"more":[1],"users":{"@a:x":100,"@b:x":50},"users_default":0}`: true,
	} {
		expect(t, content, pl(content), now, want)
	}
	low := append(first, levels(`{"state_default":51,"users":{"@b:x":50}}`))
	expect(t, "with a level too low to send it", pl(`{"state_default":51,"users":{"@b:x":50}}`), low, false)
	other := pl(`{"users":{"b":1}}`)
	other.Key = "k"
	expect(t, "of another key", other, now, false)
}

// Events of other pairs than those by which one is allowed change nothing; the first of several counts.
func TestOtherEvents(t *testing.T) {
	base := state(create(`{}`), levels(`{"users":{"@a:x":100,"@b:x":50}}`), rule("invite"), member("@a:x", "@a:x", "join"), member("@b:x", "@b:x", "join"))
	noise := state(member("@z:x", "@z:x", "ban"), ev("m.room.power_levels", "@a:x", "k", `{"ban":0,"users_default":100}`), ev("m.room.create", "@a:x", "k", `{"m.federate":false}`), ev("m.room.join_rules", "@a:x", "k", `{"join_rule":"public"}`), ev("m.room.topic", "@a:x", "", `{"membership":"ban"}`), member("@b:x", "@b:x", "ban"), levels(`{"users":{"@c:x":100}}`), rule("public"), create(`{"m.federate":false}`))
	plain := rule("public")
	plain.State = false
	for _, e := range []api.Event{message("@b:x"), message("@z:x"), member("@c:y", "@c:y", "join"), member("@a:x", "@b:x", "ban"), member("@b:x", "@a:x", "leave"), member("@b:x", "@c:y", "invite"), ev("k", "@b:x", "", `{}`), member("@c:y", "@c:y", "knock")} {
		want := auth.Allowed(e, base)
		if got := auth.Allowed(e, append(state(plain, base), noise...)); got != want {
			t.Errorf("%s %s by %s: %d with other events, %d without", e.Type, e.Key, e.Sender, got, want)
		}
	}
	expect(t, "a ban by a third", member("@a:x", "@b:x", "ban"), base, true)
}

func TestUnchanged(t *testing.T) {
	st := state(create(`{}`), levels(`{"users":{"@a:x":100}}`), rule("public"), member("@a:x", "@a:x", "join"), third("@b:x", "tok", `{"public_key":`+keyOf(1)+`}`))
	texts := func() string {
		var out []string
		for _, e := range st {
			s, _ := event.Encode(e)
			out = append(out, s)
		}
		return strings.Join(out, "\n")
	}
	before := texts()
	for _, e := range []api.Event{message("@a:x"), bySigned(signedBy(1, "tok", "@c:y")), member("@a:x", "@b:x", "ban"), create(`{}`), levels(`{"users":{"@a:x":99}}`)} {
		s, _ := event.Encode(e)
		auth.Allowed(e, st)
		if again, _ := event.Encode(e); again != s || texts() != before {
			t.Errorf("%s: what was handed in was changed", e.Type)
		}
	}
	bad := api.Value{Kind: api.KindMap, Map: []api.Member{{Key: "users"}, {Key: "membership", Val: json.Text("join")}, {Key: "a"}}}
	for _, kind := range []string{"m.room.create", "m.room.member", "m.room.power_levels", "x"} { // it ends
		e := ev(kind, "@a:x", "@a:x", `{}`)
		e.Content = bad
		auth.Allowed(e, append(st, e))
	}
	auth.Allowed(api.Event{}, nil)
	auth.Allowed(api.Event{}, []api.Event{{}})
}
