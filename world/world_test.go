package world_test

import (
	"fmt"
	"math/rand"
	"slices"
	"strings"
	"testing"

	"hustings/api"
	"hustings/event"
	"hustings/json"
	"hustings/peer"
	"hustings/sign"
	"hustings/spool"
	"hustings/world"
)

const name = "!r:s0"

func parse(s string) api.Value {
	v, err := json.Parse(s)
	if err != api.OK {
		panic(s)
	}
	return v
}

// draft: key "-": no state event.
func draft(sender, kind, key, content string) api.Draft {
	return api.Draft{Sender: sender, Type: kind, State: key != "-", Key: strings.TrimPrefix(key, "-"), Content: parse(content)}
}

func seed(i int) [32]byte { return [32]byte{byte(i + 1)} }

func keys(n int) []api.Key {
	var out []api.Key
	for i := range n {
		out = append(out, api.Key{Server: fmt.Sprint("s", i), Name: "ed25519:1", Public: sign.Public(seed(i))})
	}
	return out
}

func secret(i int) api.Secret {
	return api.Secret{Server: fmt.Sprint("s", i), Name: "ed25519:1", Seed: seed(i)}
}

func open(t *testing.T, n int) *world.World {
	t.Helper()
	w, err := world.New(n, name)
	if err != api.OK {
		t.Fatalf("New(%d): %d", n, err)
	}
	return w
}

func send(t *testing.T, w *world.World, i int, d api.Draft) string {
	t.Helper()
	id, err := w.Send(i, d)
	if err != api.OK {
		t.Fatalf("Send of %s by %s: %d", d.Type, d.Sender, err)
	}
	return id
}

// begin: a room of @u:s0 that all may join.
func begin(t *testing.T, w *world.World) []string {
	t.Helper()
	return []string{
		send(t, w, 0, draft("@u:s0", "m.room.create", "", `{}`)),
		send(t, w, 0, draft("@u:s0", "m.room.member", "@u:s0", `{"membership":"join"}`)),
		send(t, w, 0, draft("@u:s0", "m.room.join_rules", "", `{"join_rule":"public"}`)),
	}
}

func TestNew(t *testing.T) {
	for n := -1; n < 12; n++ {
		w, err := world.New(n, name)
		if n < 1 || n > 8 {
			if err != api.ErrArg || w != nil {
				t.Errorf("New(%d): %d", n, err)
			}
			continue
		}
		if err != api.OK || w.Flight() != 0 || w.Peer(n) != nil || w.Peer(-1) != nil {
			t.Fatalf("New(%d): %d", n, err)
		}
		for i := range n {
			if w.Peer(i) == nil || w.Peer(i).Room().Len() != 0 {
				t.Errorf("New(%d) has no server %d", n, i)
			}
		}
	}
	for _, bad := range []string{"", "r", "@u:s0"} {
		if w, err := world.New(2, bad); err != api.ErrArg || w != nil {
			t.Errorf("New of the room %q: %d", bad, err)
		}
	}
	if world.Name(0) != "s0" || world.Name(7) != "s7" || world.Name(12) != "s12" {
		t.Error("names")
	}
}

func TestExample(t *testing.T) {
	w := open(t, 2)
	id := send(t, w, 0, draft("@u:s0", "m.room.create", "", `{}`))
	if w.Flight() != 1 || w.Peer(1).Room().Len() != 0 {
		t.Fatalf("%d under way", w.Flight())
	}
	if err := w.Deliver(0); err != api.OK || w.Peer(1).Room().Verdict(id) != api.Accepted || w.Flight() != 1 {
		t.Fatalf("Deliver: %d, %d under way", err, w.Flight())
	}
	if !slices.Equal(w.Peer(0).Queue("s1"), []string{id}) || w.Deliver(0) != api.OK || len(w.Peer(0).Queue("s1")) != 0 {
		t.Error("what it says isn't that it is there")
	}
	e, _ := w.Peer(1).Room().Event(id)
	if len(e.Sigs) != 1 || e.Sigs[0].Server != "s0" || e.Sigs[0].Key != "ed25519:1" {
		t.Errorf("signed by %+v", e.Sigs)
	}
}

// model is a world once more: its servers by layer 23, and a list of posts.
type model struct {
	spools []*spool.Spool
	peers  []*peer.Peer
	flight []api.Post
}

func newModel(n int) *model {
	m := &model{}
	for i := range n {
		m.spools = append(m.spools, spool.New(""))
		m.peers = append(m.peers, nil)
		m.start(i, n)
	}
	return m
}

func (m *model) start(i, n int) (err api.Errno) {
	m.spools[i].On()
	m.peers[i], err = peer.Open(m.spools[i], secret(i), name, keys(n))
	return err
}

func (m *model) put(list []api.Post) {
	for _, x := range list {
		if len(m.flight) < api.MaxQueue {
			m.flight = append(m.flight, x)
		}
	}
}

func (m *model) deliver(k int) api.Errno {
	if k < 0 || k >= len(m.flight) {
		return api.ErrArg
	}
	x := m.flight[k]
	m.flight = append(slices.Clone(m.flight[:k]), m.flight[k+1:]...)
	for i, p := range m.peers {
		if fmt.Sprint("s", i) == x.To {
			out, err := p.Hear(x)
			m.put(out)
			return err
		}
	}
	return api.ErrArg
}

func look(p *peer.Peer, others int) string {
	if p == nil {
		return "down"
	}
	out := fmt.Sprint(p.Room().Len(), p.Room().Heads(), p.Room().Stream(), p.Room().Current(), p.Waits())
	for i := range others {
		out += fmt.Sprint(p.Queue(fmt.Sprint("s", i)))
	}
	return out
}

// step does one thing by chance, in a world and in its model.
func step(rnd *rand.Rand, w *world.World, m *model) (what string, got, want api.Errno) {
	n := len(m.peers)
	i, k := rnd.Intn(n+2)-1, rnd.Intn(len(m.flight)+3)-1
	there := i >= 0 && i < n
	if !there {
		want = api.ErrArg
	}
	switch rnd.Intn(13) {
	case 0, 1, 2:
		what, got, want = fmt.Sprint("Deliver ", k), w.Deliver(k), m.deliver(k)
	case 3:
		what, got = fmt.Sprint("Lose ", k), w.Lose(k)
		want = api.ErrArg
		if k >= 0 && k < len(m.flight) {
			want = api.OK
			m.flight = append(slices.Clone(m.flight[:k]), m.flight[k+1:]...)
		}
	case 4:
		what, got = fmt.Sprint("Double ", k), w.Double(k)
		want = api.ErrArg
		if k >= 0 && k < len(m.flight) {
			want = api.OK
			m.put(m.flight[k : k+1])
		}
	case 5, 6, 7:
		user := fmt.Sprintf("@u:s%d", max(0, i))
		d := []api.Draft{draft(user, "m.room.create", "", `{}`), draft(user, "m.room.member", user, `{"membership":"join"}`), draft(user, "m.room.join_rules", "", `{"join_rule":"public"}`), draft(user, "m.room.message", "-", `{}`)}[rnd.Intn(4)]
		d.Time = rnd.Intn(100)
		var id, must string
		id, got = w.Send(i, d)
		if there {
			var posts []api.Post
			must, posts, want = m.peers[i].Send(d)
			m.put(posts)
		}
		if what = fmt.Sprint("Send at ", i); id != must {
			what, got = what+": another name", -1
		}
	case 8:
		what, got = fmt.Sprint("Tick ", i), w.Tick(i)
		if there {
			m.put(m.peers[i].Tick())
		}
	case 9:
		what, got = fmt.Sprint("Start ", i), w.Start(i)
		if there {
			want = m.start(i, n)
		}
	case 10:
		keep := rnd.Intn(400) - 1
		what, got = fmt.Sprint("Crash ", i, keep), w.Crash(i, keep)
		if there {
			m.spools[i].Off(keep)
		}
	case 11:
		acts, keep := rnd.Intn(5), rnd.Intn(400)
		what, got = fmt.Sprint("Arm ", i, acts, keep), w.Arm(i, acts, keep)
		if there {
			m.spools[i].Arm(acts, keep)
		}
	default:
		want = api.OK
		if rnd.Intn(2) == 0 {
			posts := []api.Post{{From: "s0", To: fmt.Sprint("s", rnd.Intn(n+1)), Kind: rnd.Intn(5)}, {From: "s1", To: "s0", Kind: 2, IDs: []string{"$x"}}}
			what = "Put"
			w.Put(posts...)
			m.put(posts)
			break
		}
		what = "Round"
		w.Round()
		for range len(m.flight) {
			m.deliver(0)
		}
		for _, p := range m.peers {
			m.put(p.Tick())
		}
	}
	return what, got, want
}

func TestScripts(t *testing.T) {
	rnd := rand.New(rand.NewSource(1))
	for n := 1; n <= 4; n++ {
		for range 6 {
			w, m := open(t, n), newModel(n)
			var log []string
			for range 100 {
				what, got, want := step(rnd, w, m)
				log = append(log, what)
				if got != want || w.Flight() != len(m.flight) {
					t.Fatalf("%q: %d, want %d; %d under way, want %d", log, got, want, w.Flight(), len(m.flight))
				}
				for i := range n {
					if a, b := look(w.Peer(i), n), look(m.peers[i], n); a != b {
						t.Fatalf("%q: server %d is %s, want %s", log, i, a, b)
					}
				}
			}
		}
	}
}

// At most MaxQueue posts are under way; more are lost at once.
func TestFlight(t *testing.T) {
	w := open(t, 2)
	x := api.Post{From: "s0", To: "nobody", Kind: 2}
	w.Put(slices.Repeat([]api.Post{x}, 200)...)
	w.Put(slices.Repeat([]api.Post{{From: "s0", To: "s1", Kind: 9}}, 200)...)
	if w.Flight() != api.MaxQueue {
		t.Fatalf("%d under way", w.Flight())
	}
	if w.Double(0) != api.OK || w.Flight() != api.MaxQueue || w.Double(api.MaxQueue) != api.ErrArg {
		t.Error("Double, with as many as there may be")
	}
	send(t, w, 0, draft("@u:s0", "m.room.create", "", `{}`))
	if w.Flight() != api.MaxQueue || len(w.Peer(0).Queue("s1")) != 1 {
		t.Error("Send, with as many as there may be")
	}
	for i := range 200 {
		if err := w.Deliver(0); err != api.ErrArg || w.Flight() != api.MaxQueue-1-i {
			t.Fatalf("a post to nobody: %d, %d under way", err, w.Flight())
		}
	}
	if err := w.Lose(0); err != api.OK || w.Flight() != 55 {
		t.Errorf("Lose: %d", err)
	}
	w.Put()
	if w.Flight() != 55 || w.Lose(55) != api.ErrArg || w.Lose(-1) != api.ErrArg || w.Deliver(55) != api.ErrArg || w.Double(-1) != api.ErrArg {
		t.Error("posts that there aren't")
	}
}

// A doubled post arrives twice, at the end; posts arrive in whatever order they are delivered.
func TestOrder(t *testing.T) {
	w := open(t, 2)
	ids := begin(t, w)
	w.Double(0)
	if w.Flight() != 4 {
		t.Fatalf("%d under way", w.Flight())
	}
	w.Lose(0)
	w.Deliver(1) // the third event: s1 asks for the others
	if !slices.Equal(w.Peer(1).Waits(), ids[2:]) || w.Flight() != 3 {
		t.Fatalf("Waits %q, %d under way", w.Peer(1).Waits(), w.Flight())
	}
	w.Deliver(1) // the double
	if w.Peer(1).Room().Len() != 1 {
		t.Errorf("%d events", w.Peer(1).Room().Len())
	}
}

func TestRound(t *testing.T) {
	w := open(t, 2)
	ids := begin(t, w)
	w.Round()
	if !slices.Equal(w.Peer(1).Room().Stream(), ids) || len(w.Peer(0).Queue("s1")) != 3 {
		t.Errorf("behind a round: %q", w.Peer(1).Room().Stream())
	}
	if n := w.Flight(); n != 4 { // three that say it is there, and one push anew
		t.Errorf("%d under way", n)
	}
	w.Round()
	if len(w.Peer(0).Queue("s1")) != 0 {
		t.Errorf("the queue: %q", w.Peer(0).Queue("s1"))
	}
}

func TestPower(t *testing.T) {
	w := open(t, 2)
	ids := begin(t, w)
	w.Crash(1, 0)
	if err := w.Deliver(0); err != api.ErrDown || w.Flight() != 2 {
		t.Errorf("Deliver to one whose power is off: %d", err)
	}
	if err := w.Tick(1); err != api.OK || w.Flight() != 2 {
		t.Errorf("Tick of it: %d", err)
	}
	w.Start(1)
	if w.Peer(1).Room().Len() != 0 || w.Tick(1) != api.OK || w.Flight() != 3 {
		t.Error("started again")
	}
	w.Crash(0, 0)
	if _, err := w.Send(0, draft("@u:s0", "m.room.message", "-", `{}`)); err != api.ErrDown {
		t.Errorf("Send at one whose power is off: %d", err)
	}
	w.Start(0)
	if !slices.Equal(w.Peer(0).Room().Stream(), ids) || !slices.Equal(w.Peer(0).Queue("s1"), ids) {
		t.Errorf("behind a crash: %q", w.Peer(0).Room().Stream())
	}
	w.Arm(0, 1, 0)
	if _, err := w.Send(0, draft("@u:s0", "m.room.message", "-", `{}`)); err != api.ErrDown {
		t.Errorf("Send as the power goes: %d", err)
	}
}

func TestNil(t *testing.T) {
	var w *world.World
	w.Put(api.Post{})
	w.Round()
	if w.Start(0) != api.ErrNil || w.Crash(0, 0) != api.ErrNil || w.Arm(0, 0, 0) != api.ErrNil || w.Tick(0) != api.ErrNil {
		t.Error("Start, Crash, Arm, Tick")
	}
	if id, err := w.Send(0, api.Draft{}); err != api.ErrNil || id != "" {
		t.Errorf("Send: %d", err)
	}
	if w.Deliver(0) != api.ErrArg || w.Lose(0) != api.ErrArg || w.Double(0) != api.ErrArg || w.Flight() != 0 || w.Peer(0) != nil {
		t.Error("Deliver, Lose, Double, Flight, Peer")
	}
}

func TestMemory(t *testing.T) {
	one, two := open(t, 2), open(t, 2)
	ids := begin(t, one)
	texts := []string{}
	for _, id := range ids {
		e, _ := one.Peer(0).Room().Event(id)
		s, _ := event.Encode(e)
		texts = append(texts, s)
	}
	posts := []api.Post{{From: "s0", To: "s1", Kind: api.PostPush, Texts: slices.Clone(texts)}, {From: "s1", To: "s0", Kind: api.PostGot, IDs: slices.Clone(ids)}}
	two.Put(posts...)
	posts[0].Texts[0], posts[1].IDs[0], posts[0].To, posts[1].Kind = "x", "x", "s0", 9
	if two.Deliver(0) != api.OK || !slices.Equal(two.Peer(1).Room().Stream(), ids) {
		t.Error("what was handed in was kept")
	}
	if posts[0].Texts[1] != texts[1] || one.Peer(1).Room().Len() != 0 {
		t.Error("what was handed in was changed, or two worlds know of one another")
	}
	got := slices.Clone(ids)
	one.Put(api.Post{From: "s1", To: "s0", Kind: api.PostGot, IDs: got})
	got[0], got[1], got[2] = "x", "x", "x"
	one.Double(3)
	for range 2 {
		one.Deliver(3)
	}
	if len(one.Peer(0).Queue("s1")) != 0 {
		t.Error("a post that was put didn't arrive")
	}
}
