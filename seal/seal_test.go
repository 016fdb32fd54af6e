package seal_test

import (
	"crypto/ed25519"
	"crypto/sha256"
	"encoding/base64"
	"reflect"
	"slices"
	"strings"
	"testing"

	"hustings/api"
	"hustings/event"
	"hustings/json"
	"hustings/redact"
	"hustings/seal"
)

func secret(server, name string, n byte) api.Secret {
	return api.Secret{Server: server, Name: name, Seed: [32]byte{n}}
}

func private(k api.Secret) ed25519.PrivateKey { return ed25519.NewKeyFromSeed(k.Seed[:]) }

func public(k api.Secret) api.Key {
	return api.Key{Server: k.Server, Name: k.Name, Public: [32]byte(private(k).Public().(ed25519.PublicKey))}
}

var (
	ka  = secret("a", "ed25519:1", 1)
	ka2 = secret("a", "ed25519:2", 2)
	kb  = secret("b", "ed25519:1", 3)
)

func parse(s string) api.Value {
	v, _ := json.Parse(s)
	return v
}

func draft(kind, content string) api.Event {
	id := "$" + base64.RawURLEncoding.EncodeToString([]byte(strings.Repeat("y", 32)))
	return api.Event{Room: "!r:a", Sender: "@u:a", Type: kind, State: true, Key: "@u:a", Content: parse(content), Prev: []string{id}, Auth: []string{id}, Depth: 3, Time: 4, Hash: strings.Repeat("A", 43)}
}

func close1(t *testing.T, e api.Event, k api.Secret) api.Event {
	t.Helper()
	out, err := seal.Close(e, k)
	if err != api.OK {
		t.Fatalf("Close: %d", err)
	}
	return out
}

// textWithout: the canonical text of an event's value without some members.
func textWithout(e api.Event, keys ...string) []byte {
	v := event.Value(e)
	for _, key := range keys {
		v = json.Drop(v, key)
	}
	s, _ := json.Canon(v)
	return []byte(s)
}

func samples(t *testing.T) []api.Event {
	return []api.Event{
		draft("m.room.message", `{"body":"hi","n":1}`),
		draft("m.room.member", `{"membership":"join","displayname":"Ann"}`),
		draft("m.room.create", `{"room_version":"11"}`),
		close1(t, draft("m.room.topic", `{"topic":"é"}`), ka),
		close1(t, draft("m.room.message", `{}`), kb),
	}
}

func long(n int) string { return `{"a":"` + strings.Repeat("x", n) + `"}` }

// broken: events without a text, and why they have none.
func broken() map[api.Errno]api.Event {
	deep := draft("m.room.message", strings.Repeat(`{"a":`, 31)+"{}"+strings.Repeat("}", 31))
	many := draft("m.room.message", `{}`)
	many.Auth = slices.Repeat(many.Auth, 11)
	none := draft("", `{}`)
	return map[api.Errno]api.Event{api.ErrDeep: deep, api.ErrMany: many, api.ErrEvent: none, api.ErrLong: draft("m.room.message", long(api.MaxBytes-100))}
}

func TestHashBytesName(t *testing.T) {
	for i, e := range samples(t) {
		sum := sha256.Sum256(textWithout(e, "hashes", "signatures"))
		if got, want := seal.Hash(e), base64.RawStdEncoding.EncodeToString(sum[:]); got != want {
			t.Errorf("event %d: Hash %q, want %q", i, got, want)
		}
		signed := textWithout(redact.Strip(e), "signatures")
		if got := seal.Bytes(e); got != string(signed) {
			t.Errorf("event %d: Bytes %q, want %q", i, got, signed)
		}
		sum = sha256.Sum256(signed)
		if got, want := seal.Name(e), "$"+base64.RawURLEncoding.EncodeToString(sum[:]); got != want {
			t.Errorf("event %d: Name %q, want %q", i, got, want)
		}
	}
	for err, e := range broken() {
		if seal.Hash(e) != "" || seal.Bytes(e) != "" || seal.Name(e) != "" {
			t.Errorf("the event of error %d has a hash, a name, or what is signed", err)
		}
	}
	if seal.Name(api.Event{}) != "" || seal.Hash(api.Event{}) != "" || seal.Bytes(api.Event{}) != "" {
		t.Error("the zero event")
	}
}

// What a name hangs on, and what it doesn't.
func TestNameHangsOn(t *testing.T) {
	e := close1(t, draft("m.room.member", `{"membership":"join","displayname":"Ann"}`), ka)
	name, hash := seal.Name(e), seal.Hash(e)
	f, _ := seal.Add(e, kb)
	g := e
	g.Sigs = nil
	h := e
	h.Content = parse(`{"membership":"join","displayname":"Bob"}`)
	for i, x := range []api.Event{f, g, h, redact.Strip(e)} {
		if seal.Name(x) != name || seal.Bytes(x) != seal.Bytes(e) {
			t.Errorf("case %d: the name hangs on signatures, or on what stripping takes away", i)
		}
	}
	if seal.Hash(f) != hash || seal.Hash(g) != hash || seal.Hash(h) == hash || seal.Hash(redact.Strip(e)) == hash {
		t.Error("the hash hangs on signatures, or not on the content")
	}
	for i, turn := range []func(e *api.Event){
		func(e *api.Event) { e.Content = parse(`{"membership":"leave","displayname":"Ann"}`) },
		func(e *api.Event) { e.Hash = seal.Hash(draft("x", `{}`)) },
		func(e *api.Event) { e.Depth++ }, func(e *api.Event) { e.Time++ }, func(e *api.Event) { e.Room = "!s:a" },
		func(e *api.Event) { e.Sender = "@v:a" }, func(e *api.Event) { e.Prev = nil }, func(e *api.Event) { e.Auth = nil },
		func(e *api.Event) { e.State, e.Key = false, "" }, func(e *api.Event) { e.Key = "@v:a" }, func(e *api.Event) { e.Type = "m.room.members" },
	} {
		x := e
		turn(&x)
		if seal.Name(x) == name {
			t.Errorf("case %d: the name doesn't hang on it", i)
		}
		if seal.Signed(x, "a", []api.Key{public(ka)}) {
			t.Errorf("case %d: it is signed, though it was turned", i)
		}
		if i != 1 && seal.Hash(x) == hash {
			t.Errorf("case %d: the hash doesn't hang on it", i)
		}
	}
}

func TestAdd(t *testing.T) {
	for i, e := range samples(t) {
		for _, k := range []api.Secret{ka, ka2, kb, secret("0", "ed25519:z", 9)} {
			got, err := seal.Add(e, k)
			if err != api.OK {
				t.Fatalf("event %d: Add: %d", i, err)
			}
			sig := ed25519.Sign(private(k), []byte(seal.Bytes(e)))
			own := api.Sig{Server: k.Server, Key: k.Name, Sign: base64.RawStdEncoding.EncodeToString(sig)}
			want := e
			want.Sigs = []api.Sig{own}
			for _, s := range e.Sigs {
				if s.Server != k.Server || s.Key != k.Name {
					want.Sigs = append(want.Sigs, s)
				}
			}
			slices.SortFunc(want.Sigs, func(a, b api.Sig) int { return strings.Compare(a.Server+" "+a.Key, b.Server+" "+b.Key) })
			if !event.Same(got, want) {
				t.Errorf("event %d: Add: %+v, want %+v", i, got.Sigs, want.Sigs)
			}
		}
	}
	all := draft("m.room.message", `{}`)
	for _, k := range []api.Secret{kb, ka2, secret("c", "ed25519:0", 4), ka, secret("b", "ed25519:0", 5)} {
		all, _ = seal.Add(all, k)
	}
	if len(all.Sigs) != 5 || event.Check(all) != api.OK {
		t.Errorf("signatures by several: %+v", all.Sigs)
	}
	stale, _ := seal.Add(all, secret("b", "ed25519:1", 77))
	if len(stale.Sigs) != 5 || event.Same(stale, all) {
		t.Error("a signature by another seed isn't instead of that by the same server and key")
	}
	if back, _ := seal.Add(stale, kb); !event.Same(back, all) {
		t.Error("and back")
	}
}

func TestAddErrors(t *testing.T) {
	e := draft("m.room.message", `{}`)
	for _, k := range []api.Secret{secret("", "ed25519:1", 1), secret("A", "ed25519:1", 1), secret("a", "", 1), secret("a", "ed25519:", 1), secret("a", "1", 1), {}} {
		for _, x := range []api.Event{e, {}} {
			if got, err := seal.Add(x, k); err != api.ErrArg || !reflect.DeepEqual(got, api.Event{}) {
				t.Errorf("Add by %s %s: %d", k.Server, k.Name, err)
			}
		}
		if got, err := seal.Close(e, k); err != api.ErrArg || !reflect.DeepEqual(got, api.Event{}) {
			t.Errorf("Close by %s %s: %d", k.Server, k.Name, err)
		}
		if _, err := seal.Close(api.Event{}, k); err != api.ErrEvent {
			t.Errorf("Close of no event by %s %s: %d", k.Server, k.Name, err)
		}
	}
	for want, x := range broken() {
		if got, err := seal.Add(x, ka); err != want || !reflect.DeepEqual(got, api.Event{}) {
			t.Errorf("Add: %d, want %d", err, want)
		}
		if got, err := seal.Close(x, ka); err != want || !reflect.DeepEqual(got, api.Event{}) {
			t.Errorf("Close: %d, want %d", err, want)
		}
		if got, err := seal.Check(x, []api.Key{public(ka)}); err != want || !reflect.DeepEqual(got, api.Event{}) {
			t.Errorf("Check: %d, want %d", err, want)
		}
		empty := ed25519.Sign(private(ka), nil) // what is signed of it is nothing
		x.Sigs = []api.Sig{{Server: "a", Key: "ed25519:1", Sign: base64.RawStdEncoding.EncodeToString(empty)}}
		if seal.Signed(x, "a", []api.Key{public(ka)}) {
			t.Errorf("the event of error %d is signed", want)
		}
	}
}

// An event that has a text, but none with one signature more.
func TestLongBySignature(t *testing.T) {
	e := draft("m.room.message", long(0))
	s, _ := event.Encode(e)
	e = draft("m.room.message", long(api.MaxBytes-len(s)))
	if _, err := event.Encode(e); err != api.OK {
		t.Fatalf("Encode: %d", err)
	}
	if got, err := seal.Add(e, ka); err != api.ErrLong || !reflect.DeepEqual(got, api.Event{}) {
		t.Errorf("Add: %d", err)
	}
	if got, err := seal.Close(e, ka); err != api.ErrLong || !reflect.DeepEqual(got, api.Event{}) {
		t.Errorf("Close: %d", err)
	}
}

func TestClose(t *testing.T) {
	for i, e := range samples(t) {
		for _, turn := range []func(e *api.Event){
			func(e *api.Event) {}, func(e *api.Event) { e.Hash = "" }, func(e *api.Event) { e.Hash = "x" },
			func(e *api.Event) { e.Sigs = []api.Sig{{Server: "?"}} }, func(e *api.Event) { *e, _ = seal.Add(*e, kb) },
		} {
			x := e
			turn(&x)
			got := close1(t, x, ka)
			if got.Hash != seal.Hash(e) || len(got.Sigs) != 1 || got.Sigs[0].Server != "a" || got.Sigs[0].Key != "ed25519:1" {
				t.Errorf("event %d: Close: %+v", i, got)
			}
			if !seal.Signed(got, "a", []api.Key{public(ka)}) {
				t.Errorf("event %d: closed, and not signed", i)
			}
			if back, err := seal.Check(got, []api.Key{public(ka)}); err != api.OK || !event.Same(back, got) {
				t.Errorf("event %d: closed, and Check answers %d", i, err)
			}
			x.Hash, x.Sigs = got.Hash, got.Sigs
			if !event.Same(x, got) {
				t.Errorf("event %d: Close turned more than the hash and the signatures", i)
			}
		}
	}
}

func TestSigned(t *testing.T) {
	e := close1(t, draft("m.room.message", `{"body":"hi"}`), ka)
	wrongKey := public(ka)
	wrongKey.Public = public(kb).Public
	otherName := public(ka)
	otherName.Name = "ed25519:2"
	otherServer := public(ka)
	otherServer.Server = "b"
	for i, c := range []struct {
		server string
		keys   []api.Key
		want   bool
	}{
		{"a", []api.Key{public(ka)}, true},
		{"a", []api.Key{public(kb), public(ka2), public(ka)}, true},
		{"a", []api.Key{wrongKey, public(ka)}, true},
		{"a", []api.Key{public(ka), wrongKey}, true},
		{"a", nil, false},
		{"a", []api.Key{wrongKey}, false},
		{"a", []api.Key{otherName}, false},
		{"a", []api.Key{otherServer}, false},
		{"b", []api.Key{otherServer}, false},
		{"b", []api.Key{public(ka)}, false},
		{"", []api.Key{public(ka)}, false},
	} {
		if got := seal.Signed(e, c.server, c.keys); got != c.want {
			t.Errorf("case %d: %v", i, got)
		}
	}
	both, _ := seal.Add(e, kb)
	if !seal.Signed(both, "b", []api.Key{public(kb)}) || !seal.Signed(both, "a", []api.Key{public(ka)}) {
		t.Error("signed by two")
	}
	swapped := both
	swapped.Sigs = slices.Clone(both.Sigs)
	swapped.Sigs[0].Sign, swapped.Sigs[1].Sign = both.Sigs[1].Sign, both.Sigs[0].Sign
	if seal.Signed(swapped, "a", []api.Key{public(ka)}) || seal.Signed(swapped, "b", []api.Key{public(kb)}) {
		t.Error("signed, though the signatures were swapped")
	}
	second, _ := seal.Add(e, ka2)
	second.Sigs[0].Sign = second.Sigs[1].Sign
	if seal.Signed(second, "a", []api.Key{public(ka)}) || !seal.Signed(second, "a", []api.Key{public(ka), public(ka2)}) {
		t.Error("one right signature of a server's two")
	}
}

func TestCheck(t *testing.T) {
	keys := []api.Key{public(ka), public(kb)}
	e := close1(t, draft("m.room.member", `{"membership":"join","displayname":"Ann"}`), ka)
	turned := e
	turned.Content = parse(`{"membership":"join","displayname":"Eve"}`)
	if got, err := seal.Check(turned, keys); err != api.OK || !event.Same(got, redact.Strip(e)) {
		t.Errorf("a content turned where it doesn't stay: %d, %+v", err, got)
	}
	if got, err := seal.Check(redact.Strip(e), keys); err != api.OK || !event.Same(got, redact.Strip(e)) {
		t.Errorf("a stripped event: %d", err)
	}
	turned.Content = parse(`{"membership":"ban","displayname":"Ann"}`)
	if got, err := seal.Check(turned, keys); err != api.ErrSign || !reflect.DeepEqual(got, api.Event{}) {
		t.Errorf("a membership turned: %d", err)
	}
	wrongHash := draft("m.room.message", `{"body":"hi"}`)
	wrongHash, _ = seal.Add(wrongHash, ka)
	if got, err := seal.Check(wrongHash, keys); err != api.OK || !event.Same(got, redact.Strip(wrongHash)) {
		t.Errorf("a wrong hash, signed: %d", err)
	}
	bare := draft("m.room.message", `{}`)
	if _, err := seal.Check(bare, keys); err != api.ErrSign {
		t.Errorf("not signed: %d", err)
	}
	if _, err := seal.Check(close1(t, bare, kb), keys); err != api.ErrSign {
		t.Errorf("signed by another server than the sender's: %d", err)
	}
	if _, err := seal.Check(e, nil); err != api.ErrSign {
		t.Errorf("without keys: %d", err)
	}
	if _, err := seal.Check(e, []api.Key{public(kb)}); err != api.ErrSign {
		t.Errorf("without the sender's key: %d", err)
	}
}

// Who vouches for a member's joining must have signed too.
func TestCheckVouched(t *testing.T) {
	keys := []api.Key{public(ka), public(kb)}
	content := func(by string) string {
		return `{"join_authorised_via_users_server":` + by + `,"membership":"join"}`
	}
	for i, c := range []struct {
		kind, by  string
		needsBoth bool
	}{
		{"m.room.member", `"@v:b"`, true},
		{"m.room.member", `"@v:a"`, false},
		{"m.room.member", `"@V:b"`, false},
		{"m.room.member", `"b"`, false},
		{"m.room.member", `""`, false},
		{"m.room.member", `["@v:b"]`, false},
		{"m.room.member", `null`, false},
		{"m.room.members", `"@v:b"`, false},
		{"m.room.create", `"@v:b"`, false},
	} {
		e := close1(t, draft(c.kind, content(c.by)), ka)
		if got, err := seal.Check(e, keys); (err == api.ErrSign) != c.needsBoth || err == api.OK && !event.Same(got, e) {
			t.Errorf("case %d: signed by the sender's server alone: %d", i, err)
		}
		both, _ := seal.Add(e, kb)
		if got, err := seal.Check(both, keys); err != api.OK || !event.Same(got, both) {
			t.Errorf("case %d: signed by both: %d", i, err)
		}
		if _, err := seal.Check(close1(t, e, kb), keys); err != api.ErrSign {
			t.Errorf("case %d: signed by the other server alone: %d", i, err)
		}
	}
	e := close1(t, draft("m.room.member", `{"join_authorised_via_users_server":"@v:b","membership":"leave"}`), ka)
	if _, err := seal.Check(e, keys); err != api.ErrSign {
		t.Errorf("whatever the membership: %d", err)
	}
	e.State, e.Key = false, ""
	e = close1(t, e, ka)
	if _, err := seal.Check(e, keys); err != api.ErrSign {
		t.Errorf("without a state key: %d", err)
	}
}

func TestMemory(t *testing.T) {
	make1 := func() api.Event {
		return close1(t, draft("m.room.create", `{"a":[1,{"b":2}],"room_version":"11"}`), ka)
	}
	keys := []api.Key{public(ka)}
	for name, call := range map[string]func(e api.Event) api.Event{
		"Add":   func(e api.Event) api.Event { out, _ := seal.Add(e, kb); return out },
		"same":  func(e api.Event) api.Event { out, _ := seal.Add(e, ka); return out },
		"Close": func(e api.Event) api.Event { out, _ := seal.Close(e, kb); return out },
		"Check": func(e api.Event) api.Event { out, _ := seal.Check(e, keys); return out },
	} {
		e := make1()
		e.Sigs = append(make([]api.Sig, 0, 8), e.Sigs...)
		out := call(e)
		if !event.Same(e, make1()) || e.Sigs[:2][1] != (api.Sig{}) {
			t.Errorf("%s changed what it was handed", name)
		}
		text, _ := event.Encode(out)
		e.Prev[0], e.Auth[0], e.Sigs[0].Sign = "x", "x", "x"
		if again, _ := event.Encode(out); again != text {
			t.Errorf("%s: the lists of what is answered are those that were handed in", name)
		}
	}
}
