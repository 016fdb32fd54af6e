package peer

import (
	"slices"

	"hustings/api"
	"hustings/event"
	"hustings/seal"
)

// Hear: what is answered to a post; ErrNil, ErrDown, ErrArg.
func (p *Peer) Hear(x api.Post) ([]api.Post, api.Errno) {
	switch {
	case p == nil:
		return nil, api.ErrNil
	case p.spool.Down():
		return nil, api.ErrDown
	case !p.fits(x):
		return nil, api.ErrArg
	}
	switch x.Kind {
	case api.PostAsk:
		return p.give(x), api.OK
	case api.PostGot:
		p.queues[x.From] = slices.DeleteFunc(p.queues[x.From], func(id string) bool { return slices.Contains(x.IDs, id) })
		return nil, api.OK
	}
	return p.learn(x)
}

// fits: whether a post may be heard at all.
func (p *Peer) fits(x api.Post) bool {
	if x.To != p.server || !slices.Contains(p.others, x.From) {
		return false
	}
	return len(x.Texts) <= api.MaxFetch && len(x.IDs) <= api.MaxFetch && x.Kind >= api.PostPush && x.Kind <= api.PostGot
}

// give: the events that are asked for; the heads, if none is named.
func (p *Peer) give(x api.Post) []api.Post {
	ids := x.IDs
	if len(ids) == 0 {
		ids = p.Room().Heads()
	}
	texts := p.texts(ids)
	if len(texts) == 0 {
		return nil
	}
	return []api.Post{p.post(x.From, api.PostGive, texts, nil)}
}

// right: the event of a right text, as it may be taken in, and its name.
func (p *Peer) right(text string) (api.Event, string, bool) {
	e, err := event.Decode(text)
	if err != api.OK || e.Room != p.name {
		return api.Event{}, "", false
	}
	e, err = seal.Check(e, p.keys)
	if err != api.OK {
		return api.Event{}, "", false
	}
	return e, seal.Name(e), true
}

// learn: what right texts tell comes in, or waits; said is what is there now, and what is missing.
func (p *Peer) learn(x api.Post) ([]api.Post, api.Errno) {
	var told []string
	for _, text := range x.Texts {
		if e, id, ok := p.right(text); ok {
			told = append(told, id)
			p.wait(id, e)
		}
	}
	if err := p.settle(); err != api.OK {
		return nil, err
	}
	var out []api.Post
	if got := p.present(told); x.Kind == api.PostPush && len(got) > 0 {
		out = append(out, p.post(x.From, api.PostGot, nil, got))
	}
	if missing := p.Missing(); len(missing) > 0 {
		out = append(out, p.post(x.From, api.PostAsk, nil, missing))
	}
	return out, api.OK
}

// wait: an event waits, if it isn't there, and there is room.
func (p *Peer) wait(id string, e api.Event) {
	_, waits := p.waits[id]
	if p.there(id) || !waits && len(p.waits) >= api.MaxQueue {
		return
	}
	p.waits[id] = e
}

// present: those of names that are there, each once.
func (p *Peer) present(ids []string) []string {
	var out []string
	for _, id := range ids {
		if p.there(id) && !slices.Contains(out, id) {
			out = append(out, id)
		}
	}
	return out
}

// Tick: what is said anew to all others.
func (p *Peer) Tick() []api.Post {
	if p == nil || p.spool.Down() {
		return nil
	}
	var out []api.Post
	for _, other := range p.others {
		if texts := p.texts(p.queues[other]); len(texts) > 0 {
			out = append(out, p.post(other, api.PostPush, texts, nil))
		}
		missing := p.Missing()
		if len(missing) > 0 || p.Room().Len() == 0 && len(p.waits) == 0 {
			out = append(out, p.post(other, api.PostAsk, nil, missing))
		}
	}
	return out
}
