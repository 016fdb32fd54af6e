package world_test

import (
	"fmt"
	"math/rand"
	"slices"
	"strings"
	"testing"

	"hustings/api"
	"hustings/event"
	"hustings/ident"
	"hustings/json"
	"hustings/pick"
	"hustings/room"
	"hustings/seal"
	"hustings/world"
)

// storm is a world in which everything happens.
type storm struct {
	*world.World
	t    *testing.T
	rnd  *rand.Rand
	n    int
	sent []string
	made []string // what was forged
}

func newStorm(t *testing.T, seed int64, n int) *storm {
	s := &storm{open(t, n), t, rand.New(rand.NewSource(seed)), n, nil, nil}
	s.sent = begin(t, s.World)
	return s
}

func (s *storm) any(list ...string) string { return list[s.rnd.Intn(len(list))] }

func user(i int) string { return fmt.Sprintf("@u:s%d", i) }

// speak: a user says something, or does something to the room.
func (s *storm) speak(i int) {
	d := draft(user(i), "m.room.message", "-", fmt.Sprintf(`{"n":%d}`, s.rnd.Intn(1000)))
	other := user(s.rnd.Intn(s.n))
	switch s.rnd.Intn(10) {
	case 0, 1, 2:
		d = draft(user(i), "m.room.member", user(i), `{"membership":"`+s.any("join", "join", "join", "leave")+`"}`)
	case 3:
		d = draft(user(i), "m.room.topic", s.any("", user(i)), fmt.Sprintf(`{"n":%d}`, s.rnd.Intn(1000)))
	case 4:
		d = draft(user(i), "m.room.power_levels", "", fmt.Sprintf(`{"state_default":%d}`, s.rnd.Intn(60)))
		levels := json.Map(api.Member{Key: other, Val: json.Num(s.rnd.Intn(101))}, api.Member{Key: user(0), Val: json.Num(100)})
		d.Content = json.Put(d.Content, "users", levels)
	case 5:
		d = draft(user(i), "m.room.member", other, `{"membership":"`+s.any("ban", "leave", "invite")+`"}`)
	case 6:
		d = draft(user(i), "m.room.join_rules", "", `{"join_rule":"`+s.any("public", "public", "invite")+`"}`)
	}
	d.Time = s.rnd.Intn(6)
	if id, err := s.Send(i, d); err == api.OK {
		s.sent = append(s.sent, id)
	}
}

// forge: a server says what it wants, rightly signed or not, behind whatever there is, and tells it to whom it wants.
func (s *storm) forge() {
	i := s.rnd.Intn(s.n)
	if s.Peer(i) == nil {
		return
	}
	r := s.Peer(i).Room()
	stream := r.Stream()
	if len(stream) == 0 {
		return
	}
	behind := stream[s.rnd.Intn(len(stream))]
	state, _ := r.After(behind)
	e := api.Event{Room: name, Sender: user(s.rnd.Intn(s.n)), Type: s.any("m.room.topic", "m.room.message", "m.room.member", "m.room.power_levels"), State: true, Content: parse(`{"membership":"ban","users":{"@u:s0":100}}`), Prev: []string{behind}, Time: s.rnd.Intn(6), Depth: s.rnd.Intn(9)}
	if e.Type == "m.room.member" {
		e.Key = user(s.rnd.Intn(s.n))
	}
	e.Auth = pick.Select(e, state)
	switch s.rnd.Intn(4) {
	case 0:
		e.Auth = append(e.Auth, stream[s.rnd.Intn(len(stream))])
	case 1:
		e.Auth = e.Auth[1:]
	}
	k := secret(i)
	if s.rnd.Intn(3) > 0 { // by the sender's own server, which may be of bad will
		k = secret(int(e.Sender[len(e.Sender)-1] - '0'))
	}
	e, _ = seal.Close(e, k)
	s.made = append(s.made, seal.Name(e))
	text, _ := event.Encode(e)
	s.Put(api.Post{From: s.any("s0", "s1"), To: fmt.Sprint("s", s.rnd.Intn(s.n)), Kind: 1 + 2*s.rnd.Intn(2), Texts: []string{text, "x" + text}})
}

// rage: so many things happen.
func (s *storm) rage(steps int, forged bool) {
	for range steps {
		i := s.rnd.Intn(s.n)
		switch s.rnd.Intn(12) {
		case 0, 1, 2:
			s.speak(i)
		case 3, 4, 5, 6:
			if s.Flight() > 0 {
				s.Deliver(s.rnd.Intn(s.Flight()))
			}
		case 7:
			if s.Flight() > 0 {
				s.Lose(s.rnd.Intn(s.Flight()))
			}
		case 8:
			if s.Flight() > 0 {
				s.Double(s.rnd.Intn(s.Flight()))
			}
		case 9:
			s.Tick(i)
		case 10:
			s.crash(i)
		default:
			if forged {
				s.forge()
			}
		}
	}
}

// kept: what a room has, in the order of the stream.
type kept struct {
	stream []string
	events map[string]string
}

func (s *storm) kept(r *room.Room) kept {
	k := kept{r.Stream(), map[string]string{}}
	for _, id := range s.known() {
		if before, ok := r.Before(id); ok {
			after, _ := r.After(id)
			k.events[id] = fmt.Sprint(r.Verdict(id), before, after)
		}
	}
	return k
}

// known: all names that some server has.
func (s *storm) known() []string {
	var out []string
	for i := range s.n {
		r := s.Peer(i).Room()
		next := r.Heads()
		next = append(next, r.Stream()...)
		for len(next) > 0 {
			id := next[0]
			next = next[1:]
			if e, ok := r.Event(id); ok && !slices.Contains(out, id) {
				out = append(out, id)
				next = append(next, e.Prev...)
				next = append(next, e.Auth...)
			}
		}
	}
	out = slices.Concat(out, s.sent, s.made)
	slices.Sort(out)
	return slices.Compact(out)
}

// crash: the power goes, at once or in the midst of something; behind it a server has what it had, and at most one event more; tokens stay good.
func (s *storm) crash(i int) {
	s.t.Helper()
	before := s.kept(s.Peer(i).Room())
	count := s.Peer(i).Room().Len()
	if s.rnd.Intn(2) == 0 {
		s.Arm(i, 1+s.rnd.Intn(3), s.rnd.Intn(1500))
		s.speak(i)
		before, count = s.kept(s.Peer(i).Room()), s.Peer(i).Room().Len()
	}
	s.Crash(i, s.rnd.Intn(1500)-1)
	if err := s.Start(i); err != api.OK {
		s.t.Fatalf("Start: %d", err)
	}
	r := s.Peer(i).Room()
	after := s.kept(r)
	if r.Len() < count || r.Len() > count+1 || len(after.stream) > len(before.stream)+1 || !slices.Equal(after.stream[:len(before.stream)], before.stream) {
		s.t.Fatalf("behind a loss of power: %d events, %q; ahead of it %d, %q", r.Len(), after.stream, count, before.stream)
	}
	for id, look := range before.events {
		if after.events[id] != look {
			s.t.Fatalf("%s is another one behind a loss of power", id)
		}
	}
	if ids, next, err := s.Peer(i).Feed().Sync(len(before.stream)); err != api.OK || next != len(after.stream) || len(ids) > 1 {
		s.t.Fatalf("a token isn't good any more: %q, %d, %d", ids, next, err)
	}
}

// spec: P1.
func (s *storm) spec() {
	s.t.Helper()
	for i := range s.n {
		for j := range i {
			a, b := s.Peer(i).Room(), s.Peer(j).Room()
			for _, id := range s.known() {
				if a.Verdict(id) == 0 || b.Verdict(id) == 0 {
					continue
				}
				before, _ := a.Before(id)
				before2, _ := b.Before(id)
				after, _ := a.After(id)
				after2, _ := b.After(id)
				if !slices.Equal(before, before2) || !slices.Equal(after, after2) || (a.Verdict(id) == api.Rejected) != (b.Verdict(id) == api.Rejected) {
					s.t.Fatalf("%s: servers %d and %d disagree", id, i, j)
				}
			}
			if slices.Equal(a.Heads(), b.Heads()) && !slices.Equal(a.Current(), b.Current()) {
				s.t.Fatalf("servers %d and %d have the same heads, and another current state", i, j)
			}
		}
	}
}

// signed: P2.
func (s *storm) signed() {
	s.t.Helper()
	all := keys(s.n)
	for i := range s.n {
		r := s.Peer(i).Room()
		for _, id := range s.known() {
			e, ok := r.Event(id)
			if !ok {
				continue
			}
			if !seal.Signed(e, ident.Domain(e.Sender), all) || seal.Name(e) != id {
				s.t.Fatalf("server %d has %s, which isn't signed", i, id)
			}
			for _, ahead := range slices.Concat(e.Prev, e.Auth) {
				if r.Verdict(ahead) == 0 {
					s.t.Fatalf("server %d has %s, and not what it names", i, id)
				}
			}
		}
	}
}

// shown: P5.
func (s *storm) shown() {
	s.t.Helper()
	for i := range s.n {
		r, f := s.Peer(i).Room(), s.Peer(i).Feed()
		var synced, paged []string
		for len(synced) < len(r.Stream()) {
			ids, next, err := f.Sync(len(synced))
			if err != api.OK || next != len(synced)+len(ids) || len(ids) == 0 {
				s.t.Fatalf("Sync: %d", err)
			}
			synced = append(synced, ids[:min(len(ids), 1+s.rnd.Intn(3))]...)
		}
		for at, ok := (api.Rank{A: 1 << 60}), true; ok; {
			var ids []string
			ids, at, ok = f.Messages(at, 1+s.rnd.Intn(4))
			paged = append(paged, ids...)
		}
		slices.Sort(paged)
		if !slices.Equal(synced, r.Stream()) || !slices.Equal(paged, slices.Sorted(slices.Values(synced))) {
			s.t.Fatalf("server %d shows %q, and by pages %q", i, synced, paged)
		}
		for _, id := range s.known() {
			_, ok := f.View(id)
			if ok != (r.Verdict(id) == api.Accepted) || ok != slices.Contains(synced, id) {
				s.t.Fatalf("server %d shows %s of verdict %d", i, id, r.Verdict(id))
			}
		}
	}
}

func (s *storm) start() {
	for i := range s.n {
		s.Arm(i, 0, 0)
		s.Start(i)
	}
}

func TestWhole(t *testing.T) {
	soft, rejected := 0, 0
	for seed := range int64(9) {
		s := newStorm(t, seed, 2+int(seed%3))
		for range 4 {
			s.rage(60, true)
			s.spec()
			s.signed()
			s.shown()
		}
		s.start()
		for range 5 {
			s.Round()
		}
		s.spec()
		s.signed()
		s.shown()
		for _, id := range s.known() {
			switch s.Peer(0).Room().Verdict(id) {
			case api.Soft:
				soft++
			case api.Rejected:
				rejected++
			}
		}
	}
	if soft < 5 || rejected < 10 {
		t.Errorf("the test shows nothing: %d soft, %d rejected", soft, rejected)
	}
}

// In the end all have all, and if none is soft anywhere, the same heads and current state.
func TestInTheEnd(t *testing.T) {
	alike := 0
	for seed := range int64(12) {
		s := newStorm(t, 100+seed, 2+int(seed%4))
		s.rage(150, false)
		s.start()
		for range len(s.sent) + 8 {
			s.Round()
		}
		anySoft := false
		for i := range s.n {
			r := s.Peer(i).Room()
			for _, id := range s.sent {
				if r.Verdict(id) == 0 {
					t.Fatalf("seed %d: server %d hasn't %s", seed, i, id)
				}
				anySoft = anySoft || r.Verdict(id) == api.Soft
			}
			if len(s.Peer(i).Waits()) > 0 {
				t.Fatalf("seed %d: events wait at server %d", seed, i)
			}
		}
		s.spec()
		if anySoft {
			continue
		}
		alike++
		for i := range s.n {
			if a, b := s.Peer(0).Room(), s.Peer(i).Room(); !slices.Equal(a.Heads(), b.Heads()) || !slices.Equal(a.Current(), b.Current()) {
				t.Fatalf("seed %d: servers 0 and %d have other heads or states", seed, i)
			}
		}
	}
	if alike < 2 {
		t.Errorf("the test shows nothing: %d without soft events", alike)
	}
}

// The ten examples of the whole, as far as they are of worlds.

func TestFirstExamples(t *testing.T) {
	w := open(t, 2)
	ids := begin(t, w)
	w.Round()
	if !slices.Equal(w.Peer(1).Room().Stream(), ids) {
		t.Errorf("1: %q", w.Peer(1).Room().Stream())
	}
	w = open(t, 2)
	ids = begin(t, w)
	w.Lose(0)
	w.Round()
	w.Round()
	if !slices.Equal(w.Peer(1).Room().Stream(), ids) {
		t.Errorf("2: %q", w.Peer(1).Room().Stream())
	}
}

// joined: two servers' users in one room.
func joined(t *testing.T) *world.World {
	w := open(t, 2)
	begin(t, w)
	for range 3 {
		w.Round()
	}
	send(t, w, 1, draft("@v:s1", "m.room.member", "@v:s1", `{"membership":"join"}`))
	return w
}

func TestTwoHeads(t *testing.T) {
	w := joined(t)
	send(t, w, 0, draft("@u:s0", "m.room.message", "-", `{}`))
	w.Round()
	w.Round()
	a, b := w.Peer(0).Room(), w.Peer(1).Room()
	if len(a.Heads()) != 2 || !slices.Equal(a.Heads(), b.Heads()) || !slices.Equal(a.Current(), b.Current()) {
		t.Errorf("heads %q and %q", a.Heads(), b.Heads())
	}
}

func TestBannedWhileSpeaking(t *testing.T) {
	w := joined(t)
	w.Round()
	w.Round()
	send(t, w, 0, draft("@u:s0", "m.room.member", "@v:s1", `{"membership":"ban"}`))
	word := send(t, w, 1, draft("@v:s1", "m.room.message", "-", `{}`))
	w.Round()
	w.Round()
	a, b := w.Peer(0).Room(), w.Peer(1).Room()
	before, _ := a.Before(word)
	before2, _ := b.Before(word)
	if a.Verdict(word) != api.Soft || b.Verdict(word) != api.Accepted || !slices.Equal(before, before2) {
		t.Errorf("verdicts %d and %d", a.Verdict(word), b.Verdict(word))
	}
}

func TestForgedCreate(t *testing.T) {
	w := open(t, 3)
	e, _ := seal.Close(api.Event{Room: name, Sender: "@u:s0", Type: "m.room.create", State: true, Content: json.Map()}, secret(2))
	text, _ := event.Encode(e)
	w.Put(api.Post{From: "s2", To: "s1", Kind: api.PostPush, Texts: []string{text}})
	if err := w.Deliver(0); err != api.OK || w.Flight() != 0 || w.Peer(1).Room().Len()+len(w.Peer(1).Waits()) != 0 {
		t.Errorf("a create signed by another: %d", err)
	}
}

func TestTurnedContent(t *testing.T) {
	w := joined(t)
	for range 3 {
		w.Round()
	}
	for w.Flight() > 0 {
		w.Lose(0)
	}
	word := send(t, w, 0, draft("@u:s0", "m.room.message", "-", `{"body":"hi"}`))
	member := send(t, w, 0, draft("@u:s0", "m.room.member", "@x:s1", `{"membership":"invite"}`))
	turned := func(id, old, new string) string {
		e, _ := w.Peer(0).Room().Event(id)
		text, _ := event.Encode(e)
		return strings.Replace(text, old, new, 1)
	}
	for w.Flight() > 0 {
		w.Lose(0)
	}
	w.Put(api.Post{From: "s0", To: "s1", Kind: api.PostPush, Texts: []string{turned(word, "hi", "ho"), turned(member, "invite", "ban")}})
	w.Deliver(0)
	r := w.Peer(1).Room()
	if e, ok := r.Event(word); !ok || len(e.Content.Map) != 0 || r.Verdict(word) != api.Accepted {
		t.Error("a message whose content was turned")
	}
	if r.Verdict(member) != 0 || slices.Contains(w.Peer(1).Waits(), member) {
		t.Error("a membership that was turned")
	}
}

// A redaction by the sender's server: the event is shown without its content.
func TestRedaction(t *testing.T) {
	w := joined(t)
	word := send(t, w, 1, draft("@v:s1", "m.room.message", "-", `{"body":"hi"}`))
	for range 3 {
		w.Round()
	}
	if e, ok := w.Peer(0).Feed().View(word); !ok || len(e.Content.Map) != 1 {
		t.Fatal("it isn't shown")
	}
	send(t, w, 1, draft("@v:s1", "m.room.redaction", "-", `{"redacts":"`+word+`"}`))
	for range 3 {
		w.Round()
	}
	for i := range 2 {
		if e, ok := w.Peer(i).Feed().View(word); !ok || len(e.Content.Map) != 0 {
			t.Errorf("server %d shows it with its content", i)
		}
	}
}
