package room_test

import (
	"fmt"
	"math/rand"
	"reflect"
	"slices"
	"strings"
	"testing"

	"hustings/api"
	"hustings/auth"
	"hustings/event"
	"hustings/json"
	"hustings/pick"
	"hustings/resolve"
	"hustings/room"
	"hustings/seal"
)

const name = "!r:x"

func parse(s string) api.Value {
	v, err := json.Parse(s)
	if err != api.OK {
		panic(s)
	}
	return v
}

// hall is a room, and what makes events for it.
type hall struct {
	*room.Room
	t *testing.T
	n int
}

func open(t *testing.T) *hall { return &hall{Room: room.New(name), t: t} }

// build: an event behind some others, that names what it needs of the state behind the last of them; key "-": no state event.
func (h *hall) build(kind, sender, key, content string, prev ...string) api.Event {
	h.n++
	e := api.Event{Room: name, Sender: sender, Type: kind, State: key != "-", Key: strings.TrimPrefix(key, "-"), Content: parse(content), Prev: prev, Time: h.n, Hash: strings.Repeat("A", 43)}
	if len(prev) > 0 {
		state, _ := h.After(prev[len(prev)-1])
		e.Auth = pick.Select(e, state)
	}
	return e
}

// take: such an event comes in, with this verdict.
func (h *hall) take(verdict int, kind, sender, key, content string, prev ...string) string {
	h.t.Helper()
	e := h.build(kind, sender, key, content, prev...)
	id, err := h.Take(e)
	if err != api.OK || id != seal.Name(e) || h.Verdict(id) != verdict {
		h.t.Fatalf("Take of %s by %s: %q, %d, verdict %d; want %d", kind, sender, id, err, h.Verdict(id), verdict)
	}
	return id
}

func join(h *hall, user string, prev ...string) string {
	h.t.Helper()
	return h.take(api.Accepted, "m.room.member", user, user, `{"membership":"join"}`, prev...)
}

// begun: a room of @a:x with public join rules, its last event.
func begun(t *testing.T) (*hall, string) {
	h := open(t)
	c := h.take(api.Accepted, "m.room.create", "@a:x", "", `{}`)
	a := join(h, "@a:x", c)
	l := h.take(api.Accepted, "m.room.power_levels", "@a:x", "", `{"users":{"@a:x":100}}`, a)
	return h, h.take(api.Accepted, "m.room.join_rules", "@a:x", "", `{"join_rule":"public"}`, l)
}

func slot(kind, key, id string) api.Slot { return api.Slot{Type: kind, Key: key, ID: id} }

func get(state []api.Slot, kind, key string) string {
	id, _ := pick.Get(state, api.Pair{Type: kind, Key: key})
	return id
}

func TestCreate(t *testing.T) {
	h := open(t)
	if h.Len() != 0 || len(h.Heads()) != 0 || len(h.Current()) != 0 || len(h.Stream()) != 0 {
		t.Error("a new room has events")
	}
	c := h.take(api.Accepted, "m.room.create", "@a:x", "", `{}`)
	want := []api.Slot{slot("m.room.create", "", c)}
	before, ok := h.Before(c)
	after, ok2 := h.After(c)
	if !ok || !ok2 || len(before) != 0 || !slices.Equal(after, want) || !slices.Equal(h.Current(), want) || !slices.Equal(h.Heads(), []string{c}) || !slices.Equal(h.Stream(), []string{c}) || h.Len() != 1 {
		t.Errorf("behind a create: %v %v %v %v %v", before, after, h.Current(), h.Heads(), h.Stream())
	}
	m := h.take(api.Rejected, "m.room.message", "@b:x", "-", `{}`, c)
	if !slices.Equal(h.Current(), want) || !slices.Equal(h.Heads(), []string{c}) || !slices.Equal(h.Stream(), []string{c}) || h.Len() != 2 {
		t.Error("a message of one who hasn't joined changes something")
	}
	if state, ok := h.After(m); !ok || !slices.Equal(state, want) {
		t.Errorf("behind the message: %v", state)
	}
	s := h.take(api.Rejected, "m.room.topic", "@b:x", "", `{}`, c)
	if state, ok := h.After(s); !ok || !slices.Equal(state, want) {
		t.Errorf("behind a topic that is rejected: %v", state)
	}
	if v := h.Verdict("$x"); v != 0 {
		t.Errorf("the verdict over none: %d", v)
	}
}

func TestSecondCreate(t *testing.T) {
	h := open(t)
	one := h.take(api.Accepted, "m.room.create", "@a:x", "", `{}`)
	two := h.take(api.Accepted, "m.room.create", "@b:x", "", `{}`)
	heads := []string{one, two}
	slices.Sort(heads)
	if !slices.Equal(h.Heads(), heads) || len(h.Current()) != 1 {
		t.Errorf("two creates: heads %q, %v", h.Heads(), h.Current())
	}
}

// @a bans @b, while @b speaks, not knowing it.
func TestSoft(t *testing.T) {
	h, last := begun(t)
	b := join(h, "@b:y", last)
	ban := h.take(api.Accepted, "m.room.member", "@a:x", "@b:y", `{"membership":"ban"}`, b)
	heads, stream, now := h.Heads(), h.Stream(), h.Current()
	word := h.take(api.Soft, "m.room.message", "@b:y", "-", `{}`, b)
	topic := h.take(api.Rejected, "m.room.topic", "@b:y", "", `{}`, b)
	if !slices.Equal(h.Heads(), heads) || !slices.Equal(h.Stream(), stream) || !slices.Equal(h.Current(), now) || !slices.Equal(heads, []string{ban}) {
		t.Error("a soft event changes heads, stream or current state")
	}
	state, _ := h.Before(word)
	after, ok := h.After(word)
	if must, _ := h.After(b); !ok || !slices.Equal(state, must) || !slices.Equal(after, must) {
		t.Errorf("the soft word stands behind %v", state)
	}
	own := h.take(api.Soft, "m.room.member", "@b:y", "@b:y", `{"displayname":"B","membership":"join"}`, word)
	after, _ = h.After(own)
	if get(after, "m.room.member", "@b:y") != own {
		t.Error("a soft state event isn't put into the state behind it")
	}
	if h.Verdict(topic) != api.Rejected || h.Verdict(own) != api.Soft {
		t.Error("verdicts")
	}
	next := h.take(api.Accepted, "m.room.message", "@a:x", "-", `{}`, word) // behind a soft event
	if got := h.Heads(); !slices.Equal(got, slices.Sorted(slices.Values([]string{ban, next}))) {
		t.Errorf("heads: %q", got)
	}
}

// Two heads, whose states disagree.
func TestFork(t *testing.T) {
	h, last := begun(t)
	b := join(h, "@b:y", last)
	word := h.take(api.Accepted, "m.room.message", "@a:x", "-", `{}`, last)
	heads := []string{b, word}
	slices.Sort(heads)
	if !slices.Equal(h.Heads(), heads) || get(h.Current(), "m.room.member", "@b:y") != b {
		t.Errorf("heads %q, current %v", h.Heads(), h.Current())
	}
	both := h.take(api.Accepted, "m.room.message", "@a:x", "-", `{}`, b, word)
	if !slices.Equal(h.Heads(), []string{both}) {
		t.Errorf("heads: %q", h.Heads())
	}
	before, _ := h.Before(both)
	if get(before, "m.room.member", "@b:y") != b {
		t.Errorf("behind both: %v", before)
	}
}

// An event whose Auth isn't right, or hasn't what allows it, though the state behind which it stands has.
func TestGrounded(t *testing.T) {
	h, last := begun(t)
	b := join(h, "@b:y", last)
	bad := h.take(api.Rejected, "m.room.topic", "@b:y", "", `{}`, b)
	state, _ := h.After(b)
	create, levels := get(state, "m.room.create", ""), get(state, "m.room.power_levels", "")
	for i, c := range []struct {
		auth    []string
		verdict int
	}{
		{[]string{create, b, levels}, api.Accepted},
		{[]string{levels, b, create}, api.Accepted},
		{[]string{create, b}, api.Accepted}, // levels aren't named, so they are none there
		{[]string{create, levels}, api.Rejected},
		{[]string{b, levels}, api.Rejected},
		{nil, api.Rejected},
		{[]string{create, create, b}, api.Rejected},
		{[]string{create, b, last}, api.Rejected}, // join rules aren't needed by a message
		{[]string{create, b, bad}, api.Rejected},
	} {
		e := h.build("m.room.message", "@b:y", "-", `{}`, b)
		e.Auth = c.auth
		if id, err := h.Take(e); err != api.OK || h.Verdict(id) != c.verdict {
			t.Errorf("case %d: %d, verdict %d, want %d", i, err, h.Verdict(id), c.verdict)
		}
	}
	e := h.build("m.room.topic", "@b:y", "", `{}`, b) // allowed by what it names, but not by the state
	e.Auth = []string{create, b}
	if id, err := h.Take(e); err != api.OK || h.Verdict(id) != api.Rejected {
		t.Errorf("grounded, and not allowed by the state: %d, verdict %d", err, h.Verdict(id))
	}
}

// An event that names a rejected one in Auth is rejected, even where it would be right and allowed.
func TestBadAuth(t *testing.T) {
	h, last := begun(t)
	state, _ := h.After(last)
	ban := h.take(api.Accepted, "m.room.member", "@a:x", "@b:y", `{"membership":"ban"}`, last)
	badID := h.take(api.Rejected, "m.room.member", "@b:y", "@b:y", `{"membership":"join"}`, ban)
	e := h.build("m.room.message", "@b:y", "-", `{}`, last)
	e.Auth = []string{get(state, "m.room.create", ""), badID, get(state, "m.room.power_levels", "")}
	if id, err := h.Take(e); err != api.OK || h.Verdict(id) != api.Rejected {
		t.Errorf("%d, verdict %d", err, h.Verdict(id))
	}
}

func TestKeep(t *testing.T) {
	h, last := begun(t)
	heads, stream, now := h.Heads(), h.Stream(), h.Current()
	e := h.build("m.room.member", "@b:y", "@b:y", `{"membership":"join"}`, last)
	id, err := h.Keep(e)
	if err != api.OK || id != seal.Name(e) || h.Verdict(id) != api.Outlier || h.Len() != 5 {
		t.Fatalf("Keep: %q, %d, verdict %d", id, err, h.Verdict(id))
	}
	if got, ok := h.Event(id); !ok || !event.Same(got, e) {
		t.Error("Event of an outlier")
	}
	if _, ok := h.Before(id); ok {
		t.Error("an outlier stands behind a state")
	}
	if state, ok := h.After(id); ok || len(state) != 0 {
		t.Error("a state is behind an outlier")
	}
	if !slices.Equal(h.Heads(), heads) || !slices.Equal(h.Stream(), stream) || !slices.Equal(h.Current(), now) {
		t.Error("an outlier changes heads, stream or current state")
	}
	if _, err := h.Keep(e); err != api.ErrTwice {
		t.Errorf("Keep again: %d", err)
	}
	behind := h.build("m.room.message", "@a:x", "-", `{}`, last)
	behind.Prev = []string{id}
	if _, err := h.Take(behind); err != api.ErrGap {
		t.Errorf("behind an outlier: %d", err)
	}
	if again, err := h.Take(e); err != api.OK || again != id || h.Verdict(id) != api.Accepted || h.Len() != 5 || !slices.Equal(h.Heads(), []string{id}) {
		t.Errorf("an outlier placed: %d, verdict %d", err, h.Verdict(id))
	}
	if _, err := h.Take(e); err != api.ErrTwice {
		t.Errorf("placed again: %d", err)
	}
	if _, err := h.Keep(e); err != api.ErrTwice {
		t.Errorf("kept behind placing: %d", err)
	}
	if _, err := h.Take(behind); err != api.OK {
		t.Errorf("behind it now: %d", err)
	}
}

// Whether an outlier is bad is seen by what stands behind it.
func TestOutlierBad(t *testing.T) {
	h, last := begun(t)
	state, _ := h.After(last)
	good := h.build("m.room.member", "@b:y", "@b:y", `{"membership":"join"}`, last)
	goodID, _ := h.Keep(good)
	bad := h.build("m.room.member", "@c:y", "@c:y", `{"membership":"join"}`, last)
	bad.Auth = bad.Auth[:1] // without the join rules
	badID, err := h.Keep(bad)
	if err != api.OK || h.Verdict(badID) != api.Outlier {
		t.Fatalf("Keep of one that isn't grounded: %d", err)
	}
	word := func(user, id string) int {
		e := h.build("m.room.message", user, "-", `{}`, last)
		e.Auth = []string{get(state, "m.room.create", ""), id}
		at, err := h.TakeAt(e, pick.Put(state, slot("m.room.member", user, id)))
		if err != api.OK {
			return -int(err)
		}
		return h.Verdict(at)
	}
	if v := word("@b:y", goodID); v != api.Soft {
		t.Errorf("by a good outlier: %d", v)
	}
	if v := word("@c:y", badID); v != -int(api.ErrArg) {
		t.Errorf("by a bad outlier: %d", v)
	}
	ban := h.take(api.Accepted, "m.room.member", "@a:x", "@b:y", `{"membership":"ban"}`, last)
	good.Prev = []string{ban}
	again := good
	id, err := h.Keep(again)
	if err != api.OK {
		t.Fatalf("Keep: %d", err)
	}
	if _, err := h.Take(again); err != api.OK || h.Verdict(id) != api.Rejected {
		t.Errorf("an outlier that the state doesn't allow: verdict %d", h.Verdict(id))
	}
	if v := word("@b:y", id); v != -int(api.ErrArg) {
		t.Errorf("by one that was turned: %d", v)
	}
	other := h.build("m.room.member", "@d:y", "@d:y", `{"membership":"join"}`, last)
	otherID, _ := h.Keep(other)
	h.Take(other)
	if v := word("@d:y", otherID); v != api.Accepted {
		t.Errorf("by one that was placed: %d", v)
	}
}

func TestTakeAt(t *testing.T) {
	h, last := begun(t)
	state, _ := h.After(last)
	b := h.build("m.room.member", "@b:y", "@b:y", `{"membership":"join"}`, last)
	b.Prev = []string{"$" + strings.Repeat("B", 42) + "A"} // one that isn't there
	given := slices.Clone(state)
	id, err := h.TakeAt(b, given)
	if err != api.OK || h.Verdict(id) != api.Accepted || !slices.Equal(given, state) {
		t.Fatalf("TakeAt: %d, verdict %d", err, h.Verdict(id))
	}
	given[0].ID = "written"
	if before, ok := h.Before(id); !ok || !slices.Equal(before, state) {
		t.Errorf("it stands behind %v", before)
	}
	heads := []string{id, last}
	slices.Sort(heads)
	if !slices.Equal(h.Heads(), heads) || !slices.Equal(h.Stream()[4:], []string{id}) {
		t.Errorf("heads %q", h.Heads())
	}
	if _, err := h.TakeAt(b, nil); err != api.ErrTwice {
		t.Errorf("again: %d", err)
	}
	c := h.build("m.room.member", "@c:y", "@c:y", `{"membership":"join"}`, last)
	for i, bad := range [][]api.Slot{{slot("m.room.create", "", "$x")}, {slot("m.room.topic", "", state[0].ID)}, {state[1], state[0]}, {state[0], state[0]}} {
		if _, err := h.TakeAt(c, bad); err != api.ErrArg {
			t.Errorf("state %d: %d", i, err)
		}
	}
	few := pick.Put(nil, state[0])
	if id, err := h.TakeAt(c, few); err != api.OK || h.Verdict(id) != api.Rejected {
		t.Errorf("behind a state that doesn't allow it: %d, verdict %d", err, h.Verdict(id))
	}
	d := h.build("m.room.create", "@d:x", "", `{}`)
	if id, err := h.TakeAt(d, nil); err != api.OK || h.Verdict(id) != api.Accepted {
		t.Errorf("behind no state: %d", err)
	}
}

func TestErrors(t *testing.T) {
	h, last := begun(t)
	gap := "$" + strings.Repeat("B", 42) + "A"
	good := h.build("m.room.message", "@a:x", "-", `{}`, last)
	turned := func(turn func(e *api.Event)) api.Event {
		e := good
		turn(&e)
		return e
	}
	badState := []api.Slot{slot("m.room.create", "", "$x")}
	placed, _ := h.Event(last)
	outlier := turned(func(e *api.Event) { e.Time = 99 })
	h.Keep(outlier)
	for i, c := range []struct {
		e              api.Event
		state          []api.Slot
		take, keep, at api.Errno
	}{
		{good, nil, api.OK, api.OK, api.OK},
		{turned(func(e *api.Event) { e.Room = "!s:x" }), nil, api.ErrEvent, api.ErrEvent, api.ErrEvent},
		{turned(func(e *api.Event) { e.Room = "" }), nil, api.ErrEvent, api.ErrEvent, api.ErrEvent},
		{turned(func(e *api.Event) { e.Hash = "" }), nil, api.ErrEvent, api.ErrEvent, api.ErrEvent},
		{turned(func(e *api.Event) { e.Prev = slices.Repeat(e.Prev, 21) }), nil, api.ErrEvent, api.ErrEvent, api.ErrEvent},
		{turned(func(e *api.Event) { e.Room, e.Auth = "!s:x", []string{gap} }), badState, api.ErrEvent, api.ErrEvent, api.ErrEvent},
		{turned(func(e *api.Event) { e.Auth = append(slices.Clone(e.Auth), gap) }), badState, api.ErrGap, api.ErrGap, api.ErrGap},
		{turned(func(e *api.Event) { e.Prev = []string{last, gap} }), nil, api.ErrGap, api.OK, api.OK},
		{good, badState, api.OK, api.OK, api.ErrArg},
		{placed, badState, api.ErrTwice, api.ErrTwice, api.ErrTwice},
		{outlier, badState, api.OK, api.ErrTwice, api.ErrArg},
		{outlier, nil, api.OK, api.ErrTwice, api.OK},
	} {
		before := h.Len()
		for kind, want := range []api.Errno{c.take, c.keep, c.at} {
			id, err := h.Try(kind, c.e, c.state)
			if err != want || (err == api.OK) != (id == seal.Name(c.e) && id != "") {
				t.Errorf("case %d: Try of kind %d: %q, %d, want %d", i, kind, id, err, want)
			}
		}
		for _, kind := range []int{-1, 3, 1 << 40} {
			want := api.ErrForm
			if c.take == api.ErrEvent || c.keep == api.ErrGap {
				want = c.take
			}
			if id, err := h.Try(kind, c.e, c.state); err != want || id != "" {
				t.Errorf("case %d: Try of kind %d: %q, %d, want %d", i, kind, id, err, want)
			}
		}
		if h.Len() != before {
			t.Error("Try changed something")
		}
		if c.take != api.OK {
			if id, err := h.Take(c.e); err != c.take || id != "" {
				t.Errorf("case %d: Take: %d", i, err)
			}
		}
		if c.keep != api.OK {
			if id, err := h.Keep(c.e); err != c.keep || id != "" {
				t.Errorf("case %d: Keep: %d", i, err)
			}
		}
		if c.at != api.OK {
			if id, err := h.TakeAt(c.e, c.state); err != c.at || id != "" {
				t.Errorf("case %d: TakeAt: %d", i, err)
			}
		}
	}
}

func TestMany(t *testing.T) {
	h, last := begun(t)
	outlier := h.build("m.room.message", "@a:x", "-", `{}`, last)
	first := last
	h.Keep(outlier)
	for h.Len() < api.MaxEvents {
		last = h.take(api.Accepted, "m.room.message", "@a:x", "-", `{}`, last)
	}
	more := h.build("m.room.message", "@a:x", "-", `{}`, last)
	for kind := range 3 {
		if _, err := h.Try(kind, more, nil); err != api.ErrMany {
			t.Errorf("kind %d beyond MaxEvents: %d", kind, err)
		}
	}
	if _, err := h.Take(more); err != api.ErrMany || h.Len() != api.MaxEvents {
		t.Errorf("Take beyond MaxEvents: %d", err)
	}
	if _, err := h.Keep(outlier); err != api.ErrTwice {
		t.Errorf("Keep of what is there, beyond MaxEvents: %d", err)
	}
	gap := more
	gap.Prev = []string{"$" + strings.Repeat("B", 42) + "A"}
	if _, err := h.Take(gap); err != api.ErrGap {
		t.Errorf("with a gap, beyond MaxEvents: %d", err)
	}
	if _, err := h.TakeAt(more, []api.Slot{slot("x", "", "$x")}); err != api.ErrArg {
		t.Errorf("behind no state, beyond MaxEvents: %d", err)
	}
	if id, err := h.Take(outlier); err != api.OK || h.Verdict(id) != api.Accepted || h.Len() != api.MaxEvents {
		t.Errorf("an outlier placed beyond MaxEvents: %d", err)
	}
	if state, _ := h.After(first); !slices.Equal(h.Current(), state) {
		t.Error("messages change the current state")
	}
}

func TestNil(t *testing.T) {
	var r *room.Room
	e := open(t).build("m.room.create", "@a:x", "", `{}`)
	for kind := -1; kind < 4; kind++ {
		if _, err := r.Try(kind, e, nil); err != api.ErrNil {
			t.Errorf("Try: %d", err)
		}
	}
	_, err := r.Take(e)
	_, err2 := r.Keep(e)
	_, err3 := r.TakeAt(e, nil)
	if err != api.ErrNil || err2 != api.ErrNil || err3 != api.ErrNil {
		t.Errorf("Take %d, Keep %d, TakeAt %d", err, err2, err3)
	}
	_, ok := r.Event("x")
	_, ok2 := r.Before("x")
	_, ok3 := r.After("x")
	if ok || ok2 || ok3 || r.Verdict("x") != 0 || len(r.Heads())+len(r.Current())+len(r.Stream())+r.Len() != 0 {
		t.Error("a nil room has something")
	}
	h, _ := begun(t)
	if e, ok := h.Event("x"); ok || !reflect.DeepEqual(e, api.Event{}) {
		t.Error("Event of none")
	}
}

func TestMemory(t *testing.T) {
	h, last := begun(t)
	join(h, "@b:y", last)
	word := h.take(api.Accepted, "m.room.message", "@a:x", "-", `{}`, last)
	look := func() string {
		before, _ := h.Before(word)
		after, _ := h.After(word)
		return fmt.Sprint(h.Heads(), h.Stream(), h.Current(), before, after)
	}
	want := look()
	h.Heads()[0], h.Stream()[0], h.Current()[0].ID = "x", "x", "x"
	before, _ := h.Before(word)
	before[0].ID = "x"
	after, _ := h.After(word)
	after[0].ID = "x"
	if look() != want {
		t.Error("what is answered shares memory with the room")
	}
	two := open(t)
	if two.Len() != 0 || h.Len() != 6 {
		t.Error("two rooms know of one another")
	}
}

// story: a room by chance, in which users do what they may, or not, behind whatever there is; its events, in an order in which they can come.
func story(t *testing.T, rnd *rand.Rand) []api.Event {
	h, last := begun(t)
	ids := []string{join(h, "@b:y", last), join(h, "@c:y", last)}
	users := []string{"@a:x", "@b:y", "@c:y"}
	any := func(list ...string) string { return list[rnd.Intn(len(list))] }
	var out []api.Event
	for _, id := range h.Stream() {
		e, _ := h.Event(id)
		out = append(out, e)
	}
	for range 10 + rnd.Intn(30) {
		var prev []string
		for range 1 + rnd.Intn(3) {
			prev = append(prev, ids[max(0, len(ids)-1-rnd.Intn(5))])
		}
		user, kind, key, content := any(users...), "m.room.topic", "", `{}`
		switch rnd.Intn(6) {
		case 0:
			kind, content = "m.room.power_levels", fmt.Sprintf(`{"users":{"@a:x":100,"%s":%d}}`, any(users[1:]...), rnd.Intn(110))
		case 1:
			kind, content = "m.room.join_rules", `{"join_rule":"`+any("public", "invite")+`"}`
		case 2:
			kind, key, content = "m.room.member", user, `{"membership":"`+any("join", "join", "leave")+`"}`
		case 3:
			kind, key, content = "m.room.member", any(users...), `{"membership":"`+any("leave", "ban", "invite")+`"}`
		case 4:
			kind, key = "m.room.message", "-"
		}
		e := h.build(kind, user, key, content, prev...)
		if rnd.Intn(10) == 0 && len(e.Auth) > 0 {
			e.Auth = e.Auth[1:]
		}
		if rnd.Intn(10) == 0 {
			e.Auth = append(slices.Clone(e.Auth), any(ids...))
		}
		e.Time = rnd.Intn(5)
		id, err := h.Take(e)
		if err == api.OK {
			ids, out = append(ids, id), append(out, e)
		}
	}
	return out
}

// come: events come in by chance, each when what it names is there.
func come(t *testing.T, rnd *rand.Rand, list []api.Event) *hall {
	h := open(t)
	for left := slices.Clone(list); len(left) > 0; {
		i := rnd.Intn(len(left))
		if _, err := h.Take(left[i]); err == api.OK {
			left = slices.Delete(left, i, i+1)
		} else if err != api.ErrGap {
			t.Fatalf("Take: %d", err)
		}
	}
	return h
}

// Whatever the order in which they come: the same are rejected, and the same states stand before and behind; by the model, too.
func TestSpec(t *testing.T) {
	rnd := rand.New(rand.NewSource(1))
	counts := map[int]int{}
	for range 60 {
		list := story(t, rnd)
		one, two := come(t, rnd, list), come(t, rnd, list)
		byModel(t, one, list)
		for _, e := range list {
			id := seal.Name(e)
			before, ok := one.Before(id)
			before2, ok2 := two.Before(id)
			after, _ := one.After(id)
			after2, _ := two.After(id)
			if !ok || !ok2 || !slices.Equal(before, before2) || !slices.Equal(after, after2) || (one.Verdict(id) == api.Rejected) != (two.Verdict(id) == api.Rejected) {
				t.Fatalf("%s %s by %s: verdicts %d and %d, %v and %v", e.Type, e.Key, e.Sender, one.Verdict(id), two.Verdict(id), before, before2)
			}
			counts[one.Verdict(id)]++
		}
		if slices.Equal(one.Heads(), two.Heads()) && !slices.Equal(one.Current(), two.Current()) {
			t.Fatal("the same heads, and another current state")
		}
	}
	if counts[api.Accepted] < 100 || counts[api.Soft] < 20 || counts[api.Rejected] < 100 {
		t.Errorf("the test shows nothing: %v", counts)
	}
}

// byModel: a room's verdicts, states, heads and stream once more, event by event in the order of its coming as far as that is to be seen.
func byModel(t *testing.T, h *hall, list []api.Event) {
	t.Helper()
	book, after, events := resolve.New(), map[string][]api.Slot{}, map[string]api.Event{}
	var heads, stream []string
	r := room.New(name)
	allowed := func(e api.Event, ids ...string) bool {
		var list []api.Event
		for _, id := range ids {
			list = append(list, events[id])
		}
		return auth.Allowed(e, list) == api.OK
	}
	resolved := func(ids []string) []api.Slot {
		var states [][]api.Slot
		for _, id := range ids {
			states = append(states, after[id])
		}
		out, _ := book.Resolve(states)
		return out
	}
	ids := func(state []api.Slot) []string {
		var out []string
		for _, s := range state {
			out = append(out, s.ID)
		}
		return out
	}
	for _, e := range list {
		id, before, current := seal.Name(e), resolved(e.Prev), resolved(heads)
		var named []api.Event
		grounded := allowed(e, e.Auth...)
		for _, a := range e.Auth {
			grounded = grounded && !book.Bad(a)
			named = append(named, events[a])
		}
		want := api.Accepted
		switch {
		case !grounded || !pick.Right(e, named) || !allowed(e, ids(before)...):
			want = api.Rejected
		case !allowed(e, ids(current)...):
			want = api.Soft
		}
		book.Add(id, e, want == api.Rejected)
		events[id], after[id] = e, before
		if e.State && want != api.Rejected {
			after[id] = pick.Put(before, slot(e.Type, e.Key, id))
		}
		if want == api.Accepted {
			stream = append(stream, id)
			heads = append(slices.DeleteFunc(heads, func(x string) bool { return slices.Contains(e.Prev, x) }), id)
			slices.Sort(heads)
		}
		got, err := r.Take(e)
		b, _ := r.Before(id)
		a, _ := r.After(id)
		if err != api.OK || got != id || r.Verdict(id) != want || !slices.Equal(b, before) || !slices.Equal(a, after[id]) || !slices.Equal(r.Heads(), heads) || !slices.Equal(r.Stream(), stream) || !slices.Equal(r.Current(), resolved(heads)) {
			t.Fatalf("%s by %s: verdict %d, want %d; %d", e.Type, e.Sender, r.Verdict(id), want, err)
		}
		if o, _ := h.After(id); !slices.Equal(o, a) {
			t.Fatal("another order of coming, another state")
		}
	}
}
