package auth

import (
	"slices"

	"hustings/api"
	"hustings/ident"
	"hustings/json"
	"hustings/letters"
	"hustings/seal"
	"hustings/sign"
)

const (
	keyBytes  = 32
	signBytes = 64
)

// moves: whether a member event is allowed.
func moves(e, made api.Event, state []api.Event) bool {
	if !e.State || !ident.User(e.Key) {
		return false
	}
	switch text(e.Content, "membership") {
	case join:
		return follows(e, made) || joins(e, state)
	case invite:
		if by, has := json.Get(e.Content, thirdMember); has {
			return invitedFor(e, by, state)
		}
		return invites(e, state)
	case leave:
		return leaves(e, state)
	case ban:
		return joined(state, e.Sender) && can(state, e.Sender, ban) && over(state, e.Sender, e.Key)
	case knock:
		return knocks(e, state)
	}
	return false
}

// follows: whether an event is the creator's joining, right behind the create.
func follows(e, made api.Event) bool {
	if len(e.Prev) != 1 || made.Sender != e.Key || e.Sender != e.Key {
		return false
	}
	name := seal.Name(made)
	return name != "" && e.Prev[0] == name
}

func joins(e api.Event, state []api.Event) bool {
	was, rule := Member(state, e.Key), Rule(state)
	if e.Sender != e.Key || was == ban {
		return false
	}
	if rule == public || was == join {
		return true
	}
	via := rule == restricted || rule == knockOrVia
	if was == invite {
		return via || rule == invite || rule == knock
	}
	by := text(e.Content, viaWhom)
	return via && by != "" && joined(state, by) && can(state, by, invite)
}

func invites(e api.Event, state []api.Event) bool {
	was := Member(state, e.Key)
	return joined(state, e.Sender) && was != join && was != ban && can(state, e.Sender, invite)
}

func leaves(e api.Event, state []api.Event) bool {
	was := Member(state, e.Key)
	if e.Sender == e.Key {
		return was == invite || was == join || was == knock
	}
	if !joined(state, e.Sender) || was == ban && !can(state, e.Sender, ban) {
		return false
	}
	return can(state, e.Sender, kick) && over(state, e.Sender, e.Key)
}

func knocks(e api.Event, state []api.Event) bool {
	rule, was := Rule(state), Member(state, e.Key)
	return (rule == knock || rule == knockOrVia) && e.Sender == e.Key && was != ban && was != invite && was != join
}

// invitedFor: whether an invitation is allowed by a third party's word.
func invitedFor(e api.Event, by api.Value, state []api.Event) bool {
	signed, _ := json.Get(by, "signed")
	token := text(signed, "token")
	asked, there := Find(state, third, token)
	if token == "" || !there || asked.Sender != e.Sender {
		return false
	}
	if text(signed, "mxid") != e.Key || Member(state, e.Key) == ban {
		return false
	}
	return vouched(signed, keysOf(asked.Content))
}

// keysOf: the public keys that an invitation by a third party tells.
func keysOf(content api.Value) [][keyBytes]byte {
	var out [][keyBytes]byte
	collect := func(v api.Value) {
		if b, ok := letters.Decode(text(v, "public_key"), false); ok && len(b) == keyBytes {
			out = append(out, [keyBytes]byte(b))
		}
	}
	collect(content)
	list, _ := json.Get(content, "public_keys")
	for _, v := range list.List {
		collect(v)
	}
	return out
}

// vouched: whether a value is signed by one of some keys.
func vouched(signed api.Value, keys [][keyBytes]byte) bool {
	msg, err := json.Canon(json.Drop(signed, "signatures"))
	if err != api.OK {
		return false
	}
	sigs, _ := json.Get(signed, "signatures")
	return slices.ContainsFunc(sigs.Map, func(server api.Member) bool {
		return slices.ContainsFunc(server.Val.Map, func(sig api.Member) bool {
			return verified(sig.Val, []byte(msg), keys)
		})
	})
}

// verified: whether a value is the letters of a message's signature by one of some keys.
func verified(v api.Value, msg []byte, keys [][keyBytes]byte) bool {
	b, ok := letters.Decode(v.S, false)
	if v.Kind != api.KindText || !ok || len(b) != signBytes {
		return false
	}
	return slices.ContainsFunc(keys, func(key [keyBytes]byte) bool { return sign.Verify(key, msg, [signBytes]byte(b)) })
}
