package store_test

import (
	"encoding/base64"
	"fmt"
	"slices"
	"strings"
	"testing"

	"hustings/api"
	"hustings/event"
	"hustings/json"
	"hustings/pick"
	"hustings/room"
	"hustings/seal"
	"hustings/spool"
	"hustings/store"
)

const name = "!r:x"

func parse(s string) api.Value {
	v, err := json.Parse(s)
	if err != api.OK {
		panic(s)
	}
	return v
}

func build(r *room.Room, kind, sender, key, content string, time int, prev ...string) api.Event {
	e := api.Event{Room: name, Sender: sender, Type: kind, State: key != "-", Key: strings.TrimPrefix(key, "-"), Content: parse(content), Prev: prev, Time: time, Hash: strings.Repeat("A", 43)}
	if len(prev) > 0 {
		state, _ := r.After(prev[len(prev)-1])
		e.Auth = pick.Select(e, state)
	}
	return e
}

// step is a call of a store, or of a room.
type step struct {
	kind  int
	event api.Event
	state []api.Slot
}

type taker interface {
	Take(e api.Event) (string, api.Errno)
	Keep(e api.Event) (string, api.Errno)
	TakeAt(e api.Event, state []api.Slot) (string, api.Errno)
}

func (s step) do(t taker) (string, api.Errno) {
	switch s.kind {
	case 0:
		return t.Take(s.event)
	case 1:
		return t.Keep(s.event)
	}
	return t.TakeAt(s.event, s.state)
}

// steps: those of a room with verdicts of all kinds; each has no error.
func steps(t *testing.T) []step {
	r := room.New(name)
	var out []step
	do := func(s step) string {
		t.Helper()
		id, err := s.do(r)
		if err != api.OK {
			t.Fatalf("step %d: %d", len(out), err)
		}
		out = append(out, s)
		return id
	}
	take := func(kind, sender, key, content string, prev ...string) string {
		t.Helper()
		return do(step{0, build(r, kind, sender, key, content, len(out), prev...), nil})
	}
	c := take("m.room.create", "@a:x", "", `{}`)
	a := take("m.room.member", "@a:x", "@a:x", `{"membership":"join"}`, c)
	p := take("m.room.join_rules", "@a:x", "", `{"join_rule":"public"}`, a)
	b := take("m.room.member", "@b:y", "@b:y", `{"membership":"join"}`, p)
	out1 := build(r, "m.room.topic", "@a:x", "", `{"topic":"é"}`, 50, p)
	o := do(step{1, out1, nil})
	take("m.room.member", "@a:x", "@b:y", `{"membership":"ban"}`, b)
	take("m.room.message", "@b:y", "-", `{"body":"soft"}`, b)
	take("m.room.message", "@c:y", "-", `{"body":"rejected"}`, b)
	state, _ := r.After(p)
	at := build(r, "m.room.message", "@a:x", "-", `{}`, 60, p)
	at.Prev = []string{"$" + strings.Repeat("B", 42) + "A"}
	do(step{2, at, pick.Put(state, api.Slot{Type: "m.room.topic", ID: o})})
	do(step{0, out1, nil})
	take("m.room.message", "@a:x", "-", `{}`, b, p)
	verdicts := map[int]bool{}
	for _, s := range out {
		verdicts[r.Verdict(seal.Name(s.event))] = true
	}
	if !verdicts[api.Accepted] || !verdicts[api.Soft] || !verdicts[api.Rejected] {
		t.Fatalf("verdicts %v", verdicts)
	}
	return out
}

// look: all that is to be seen of a room by some events.
func look(r *room.Room, list []step) string {
	var b strings.Builder
	fmt.Fprintln(&b, r.Len(), r.Heads(), r.Stream(), r.Current())
	for _, s := range list {
		id := seal.Name(s.event)
		before, ok := r.Before(id)
		after, ok2 := r.After(id)
		e, ok3 := r.Event(id)
		text, _ := event.Encode(e)
		fmt.Fprintln(&b, id, r.Verdict(id), before, ok, after, ok2, text, ok3)
	}
	return b.String()
}

// behind: what is to be seen of a room behind the first steps.
func behind(list []step, n int) string {
	r := room.New(name)
	for _, s := range list[:n] {
		s.do(r)
	}
	return look(r, list)
}

func recordOf(s step) string {
	var slots []string
	for _, x := range s.state {
		slots = append(slots, fmt.Sprintf(`["%s","%s","%s"]`, x.Type, x.Key, x.ID))
	}
	text, _ := event.Encode(s.event)
	return fmt.Sprintf(`[%d,%s,[%s]]`, s.kind, text, strings.Join(slots, ","))
}

func line(record string) string {
	return base64.RawURLEncoding.EncodeToString([]byte(record)) + "\n"
}

func open(t *testing.T, s *spool.Spool) *store.Store {
	t.Helper()
	st, err := store.Open(s, name)
	if err != api.OK {
		t.Fatalf("Open: %d", err)
	}
	return st
}

func TestRecords(t *testing.T) {
	list := steps(t)
	s := spool.New("")
	st := open(t, s)
	if st.Room().Len() != 0 || s.Bytes() != "" {
		t.Error("a new store has events")
	}
	want := ""
	for i, x := range list {
		id, err := x.do(st)
		if err != api.OK || id != seal.Name(x.event) || s.Acts() != 2*(i+1) {
			t.Fatalf("step %d: %q, %d, %d acts", i, id, err, s.Acts())
		}
		want += line(recordOf(x))
		if s.Bytes() != want {
			t.Fatalf("step %d: the spool has %q, want %q", i, s.Bytes(), want)
		}
		if look(st.Room(), list) != behind(list, i+1) {
			t.Fatalf("step %d: the room isn't what its calls make", i)
		}
		again := open(t, spool.New(s.Bytes()))
		if look(again.Room(), list) != behind(list, i+1) {
			t.Fatalf("step %d: opened again, the room is another one", i)
		}
	}
	s.Off(0) // all was synced
	s.On()
	if again := open(t, s); look(again.Room(), list) != behind(list, len(list)) || s.Bytes() != want {
		t.Error("behind a loss of power the room is another one")
	}
}

// Wherever the power goes, and however much is kept.
func TestForGood(t *testing.T) {
	list := steps(t)
	wants := make([]string, len(list)+1)
	for n := range wants {
		wants[n] = behind(list, n)
	}
	for act := 1; act <= 2*len(list); act++ {
		record := len(line(recordOf(list[(act-1)/2])))
		for _, keep := range []int{-1, 0, 1, record / 2, record - 1, record, record + 1, 1 << 30} {
			s := spool.New("")
			st := open(t, s)
			s.Arm(act, keep)
			answered := 0
			for _, x := range list {
				if _, err := x.do(st); err == api.OK {
					answered++
				} else if err != api.ErrDown {
					t.Fatalf("error %d", err)
				}
			}
			if answered != (act-1)/2 || look(st.Room(), list) != wants[answered] {
				t.Fatalf("power gone in act %d: %d calls were answered", act, answered)
			}
			s.On()
			if _, err := list[answered].do(st); err != api.ErrDown {
				t.Fatalf("a store that met an ErrDown goes on: %d", err)
			}
			again := open(t, s)
			got := look(again.Room(), list)
			n := slices.Index(wants, got)
			if n != answered && n != answered+1 || (n == answered+1) != (keep >= record) {
				t.Fatalf("power gone in act %d with %d: behind %d records, %d were answered", act, keep, n, answered)
			}
			for _, x := range list[n:] {
				if _, err := x.do(again); err != api.OK {
					t.Fatalf("and on: %d", err)
				}
			}
			if look(again.Room(), list) != wants[len(list)] {
				t.Fatal("and on: another room")
			}
		}
	}
}

func TestDown(t *testing.T) {
	list := steps(t)
	s := spool.New("")
	st := open(t, s)
	s.Off(0)
	if _, err := store.Open(s, name); err != api.ErrDown {
		t.Errorf("Open with the power off: %d", err)
	}
	for kind := range 3 {
		if _, err := (step{kind, api.Event{}, nil}).do(st); err != api.ErrDown {
			t.Errorf("kind %d with the power off: %d", kind, err)
		}
	}
	s.On() // nothing was lost, and no ErrDown of the spool met
	if _, err := list[0].do(st); err != api.OK {
		t.Errorf("with the power back: %d", err)
	}
	s.Arm(1, 0)
	if _, err := list[1].do(st); err != api.ErrDown || st.Room().Len() != 1 {
		t.Errorf("power gone in the first act: %d", err)
	}
	s.On()
	for _, x := range []step{list[1], {0, api.Event{}, nil}} {
		if _, err := x.do(st); err != api.ErrDown {
			t.Errorf("behind that: %d", err)
		}
	}
}

func TestNil(t *testing.T) {
	var st *store.Store
	for kind := range 3 {
		if id, err := (step{kind, steps(t)[0].event, nil}).do(st); err != api.ErrNil || id != "" {
			t.Errorf("kind %d: %q, %d", kind, id, err)
		}
	}
	if st.Room() != nil {
		t.Error("a nil store has a room")
	}
	if st, err := store.Open(nil, name); err != api.ErrNil || st != nil {
		t.Errorf("Open of no spool: %d", err)
	}
}

func long(n int) string { return `{"a":"` + strings.Repeat("x", n) + `"}` }

func nested(n int) string { return strings.Repeat(`{"a":`, n) + "{}" + strings.Repeat("}", n) }

// What is refused lays nothing down, and changes nothing.
func TestRefused(t *testing.T) {
	list := steps(t)
	s := spool.New("")
	st := open(t, s)
	for _, x := range list[:4] {
		x.do(st)
	}
	r := st.Room()
	last := r.Heads()[0]
	good := build(r, "m.room.message", "@a:x", "-", `{}`, 9, last)
	turned := func(turn func(e *api.Event)) api.Event {
		e := good
		turn(&e)
		return e
	}
	n := 100 // a message's name doesn't hang on its content
	content := func(s string) api.Event {
		n++
		return turned(func(e *api.Event) { e.Content, e.Time = parse(s), n })
	}
	text, _ := event.Encode(content(long(0)))
	room0 := api.MaxBytes - len(text)
	gap := "$" + strings.Repeat("B", 42) + "A"
	state, _ := r.After(last)
	for i, c := range []struct {
		x    step
		want api.Errno
	}{
		{step{0, api.Event{}, nil}, api.ErrEvent},
		{step{0, turned(func(e *api.Event) { e.Prev = slices.Repeat(e.Prev, 21) }), nil}, api.ErrMany},
		{step{1, turned(func(e *api.Event) { e.Hash = "" }), nil}, api.ErrEvent},
		{step{2, turned(func(e *api.Event) { e.Depth = -1 }), nil}, api.ErrEvent},
		{step{0, content(nested(29)), nil}, api.OK},
		{step{0, content(nested(30)), nil}, api.ErrDeep}, // an event, but no record: that is a list more
		{step{0, content(long(room0)), nil}, api.ErrLong},
		{step{0, content(long(room0 - len("[0,,[]]"))), nil}, api.OK},
		{step{1, content(long(room0 - len("[0,,[]]") + 1)), nil}, api.ErrLong},
		{step{0, turned(func(e *api.Event) { e.Prev, e.Time, e.Content = []string{gap}, 99, parse(long(room0)) }), nil}, api.ErrLong},
		{step{2, good, []api.Slot{{Type: "\xff"}}}, api.ErrArg},
		{step{2, good, []api.Slot{{Type: strings.Repeat("x", api.MaxBytes)}}}, api.ErrLong},
		{step{2, good, []api.Slot{state[1], state[0]}}, api.ErrArg},
		{step{2, good, []api.Slot{{Type: "m.room.create", ID: gap}}}, api.ErrArg},
		{step{0, turned(func(e *api.Event) { e.Room = "!s:x" }), nil}, api.ErrEvent},
		{step{0, turned(func(e *api.Event) { e.Prev = []string{gap} }), nil}, api.ErrGap},
		{step{1, turned(func(e *api.Event) { e.Auth = []string{gap} }), nil}, api.ErrGap},
		{list[0], api.ErrTwice},
		{step{1, list[0].event, nil}, api.ErrTwice},
		{step{2, list[0].event, nil}, api.ErrTwice},
	} {
		before, bytes, acts := look(r, list), s.Bytes(), s.Acts()
		id, err := c.x.do(st)
		if err != c.want {
			t.Errorf("case %d: %d, want %d", i, err, c.want)
		}
		if err != api.OK && (id != "" || look(r, list) != before || s.Bytes() != bytes || s.Acts() != acts) {
			t.Errorf("case %d: what is refused changes something", i)
		}
		if err == api.OK { // what was taken is found again
			again := open(t, spool.New(s.Bytes()))
			if look(again.Room(), list) != look(r, list) {
				t.Errorf("case %d: opened again, the room is another one", i)
			}
		}
	}
}

func TestFull(t *testing.T) {
	list := steps(t)
	s := spool.New("")
	st := open(t, s)
	list[0].do(st)
	for len(s.Bytes()) < api.MaxSpool { // bytes that the store doesn't know of
		if s.Append(strings.Repeat("x", min(1<<16, (api.MaxSpool-len(s.Bytes()))/4*3))) != api.OK {
			break
		}
	}
	before, acts := s.Bytes(), s.Acts()
	for range 2 {
		if id, err := list[1].do(st); err != api.ErrFull || id != "" || st.Room().Len() != 1 || s.Bytes() != before || s.Acts() != acts {
			t.Fatalf("a full spool: %d", err)
		}
	}
	if _, err := list[0].do(st); err != api.ErrTwice {
		t.Errorf("what is there, over a full spool: %d", err)
	}
}

func TestOpenForm(t *testing.T) {
	list := steps(t)
	r := recordOf(list[0])
	text, _ := event.Encode(list[0].event)
	gap := recordOf(list[1])
	stripped, _ := json.Parse(text)
	more, _ := json.Canon(json.Put(stripped, "unsigned", json.Map()))
	for i, bad := range []string{
		line(""), line("x"), line("null"), line("[]"), line("{}"), line(text), line("[" + text + "]"), line(`[0,` + text + `]`), line(`[0,` + text + `,[],[]]`),
		line(" " + r), line(r + " "), line(strings.Replace(r, `"depth":0`, `"depth": 0`, 1)),
		line(`[3,` + text + `,[]]`), line(`[-1,` + text + `,[]]`), line(`["0",` + text + `,[]]`), line(`[null,` + text + `,[]]`), line(`[0,` + text + `,null]`), line(`[0,` + text + `,{}]`), line(`[0,` + text + `,""]`),
		line(`[0,{},[]]`), line(`[0,null,[]]`), line(`[0,` + more + `,[]]`), line(`[0,` + strings.Replace(text, `"depth":0`, `"depth":-1`, 1) + `,[]]`),
		line(`[0,` + text + `,[["a","b","c"]]]`), line(`[1,` + text + `,[["a","b","c"]]]`), line(`[2,` + text + `,[["a","b","c"]]]`),
		line(`[2,` + text + `,[["a","b"]]]`), line(`[2,` + text + `,[["a","b","c","d"]]]`), line(`[2,` + text + `,[["a","b",1]]]`), line(`[2,` + text + `,["a"]]`), line(`[2,` + text + `,[[]]]`),
		line(r) + line(r), line(gap), line(r) + line(strings.Replace(gap, "[0,", "[2,", 1)+"x"),
		line(r) + "Zh\n" + line(gap), line(r) + line(gap) + "\n",
		line(`[2,`+text+`,[]]`) + line(r), line(strings.Replace(r, "!r:x", "!s:x", 1)),
	} {
		if st, err := store.Open(spool.New(bad), name); err != api.ErrForm || st != nil {
			t.Errorf("case %d: Open: %d", i, err)
		}
	}
	s := spool.New(line(r) + line(gap)[:20])
	if st := open(t, s); st.Room().Len() != 1 || s.Bytes() != line(r) {
		t.Errorf("a line that isn't whole: %q", s.Bytes())
	}
	if st, err := store.Open(spool.New(line(r)), "!s:x"); err != api.ErrForm || st != nil {
		t.Errorf("a room of another name: %d", err)
	}
	for _, good := range []string{line(r) + line(gap), line(strings.Replace(r, "[0,", "[1,", 1)) + line(r) + line(gap), line(`[2,` + text + `,[]]`)} {
		open(t, spool.New(good))
	}
}

// Opened again without a call, a store is the same.
func TestSame(t *testing.T) {
	list := steps(t)
	s := spool.New("")
	st := open(t, s)
	for _, x := range list {
		x.do(st)
	}
	bytes, want := s.Bytes(), look(st.Room(), list)
	for range 3 {
		st = open(t, s)
		if s.Bytes() != bytes || look(st.Room(), list) != want {
			t.Fatal("opened again, the store is another one")
		}
	}
	other := open(t, spool.New(""))
	list[0].do(other)
	if s.Bytes() != bytes || other.Room().Len() != 1 {
		t.Error("two stores know of one another")
	}
}
