package script

import (
	"hustings/api"
	"hustings/event"
	"hustings/json"
	"hustings/peer"
	"hustings/world"
)

// player is a world and what plays commands in it; at first the world is nil.
type player struct{ *world.World }

func member(key string, v api.Value) api.Member { return api.Member{Key: key, Val: v} }

// listOf: texts as a value.
func listOf(texts []string) api.Value {
	var vals []api.Value
	for _, s := range texts {
		vals = append(vals, json.Text(s))
	}
	return json.List(vals...)
}

// say: the line that a command says.
func (p *player) say(c command) string {
	said, err := p.do(c)
	text := ""
	if err == api.OK {
		text, err = json.Canon(json.Map(said...))
	}
	if err != api.OK {
		text, _ = json.Canon(json.Map(member("error", json.Num(int(err)))))
	}
	return text
}

// do: the members of what a command says.
func (p *player) do(c command) ([]api.Member, api.Errno) {
	switch c.do {
	case "send":
		id, err := p.Send(c.number("at"), c.draft())
		return []api.Member{member("id", json.Text(id))}, err
	case "flight":
		return []api.Member{member("flight", json.Num(p.Flight()))}, api.OK
	case "sync", "messages", "members", "state", "view", "show":
		server := p.Peer(c.number("at"))
		if server == nil {
			return nil, api.ErrArg
		}
		return ask(server, c)
	}
	return []api.Member{member("ok", json.Bool(true))}, p.act(c)
}

func (c command) draft() api.Draft {
	_, state := c.members["key"]
	return api.Draft{Sender: c.text("sender"), Type: c.text("type"), State: state, Key: c.text("key"), Content: c.members["content"]}
}

// act does what says nothing but whether it was done.
func (p *player) act(c command) api.Errno {
	at, k := c.number("at"), c.number("k")
	switch c.do {
	case "servers":
		return p.begin(c)
	case "deliver":
		return p.Deliver(k)
	case "lose":
		return p.Lose(k)
	case "double":
		return p.Double(k)
	case "tick":
		return p.Tick(at)
	case "start":
		return p.Start(at)
	case "crash":
		return p.Crash(at, c.number("keep"))
	case "arm":
		return p.Arm(at, c.number("n"), c.number("keep"))
	case "put":
		p.Put(api.Post{From: c.text("from"), To: c.text("to"), Kind: c.number("kind"), Texts: c.list("texts"), IDs: c.list("ids")})
	case "round":
		p.Round()
	}
	return api.OK
}

func (p *player) begin(c command) api.Errno {
	w, err := world.New(c.number("n"), c.text("room"))
	if err == api.OK {
		p.World = w
	}
	return err
}

// ask: the members of what is said of a server.
func ask(server *peer.Peer, c command) ([]api.Member, api.Errno) {
	switch c.do {
	case "sync":
		ids, next, err := server.Feed().Sync(c.number("since"))
		return []api.Member{member("ids", listOf(ids)), member("next", json.Num(next))}, err
	case "messages":
		ids, at, _ := server.Feed().Messages(api.Rank{A: c.number("depth"), B: c.number("stream")}, c.number("n"))
		return []api.Member{member("ids", listOf(ids)), member("depth", json.Num(at.A)), member("stream", json.Num(at.B))}, api.OK
	case "members":
		return []api.Member{member("members", json.Map(server.Feed().Members()...))}, api.OK
	case "state":
		return askState(server, c.text("id"))
	case "view":
		return askView(server, c.text("id"))
	}
	r := server.Room()
	return []api.Member{member("heads", listOf(r.Heads())), member("len", json.Num(r.Len())), member("waits", listOf(server.Waits()))}, api.OK
}

func askState(server *peer.Peer, id string) ([]api.Member, api.Errno) {
	state, ok := server.Room().Before(id)
	if !ok {
		return nil, api.ErrNone
	}
	var slots []api.Value
	for _, s := range state {
		slots = append(slots, listOf([]string{s.Type, s.Key, s.ID}))
	}
	return []api.Member{member("state", json.List(slots...))}, api.OK
}

func askView(server *peer.Peer, id string) ([]api.Member, api.Errno) {
	e, ok := server.Feed().View(id)
	if !ok {
		return nil, api.ErrNone
	}
	return []api.Member{member("event", event.Value(e))}, api.OK
}
