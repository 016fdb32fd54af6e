package power_test

import (
	"fmt"
	"math/rand"
	"strings"
	"testing"

	"hustings/api"
	"hustings/json"
	"hustings/power"
)

func parse(t *testing.T, s string) api.Value {
	t.Helper()
	v, err := json.Parse(s)
	if err != api.OK {
		t.Fatalf("%s: %d", s, err)
	}
	return v
}

var starts = map[string]int{"ban": 50, "events_default": 0, "invite": 0, "kick": 50, "redact": 50, "state_default": 50, "users_default": 0}

var tables = []string{"events", "notifications", "users"}

func TestValid(t *testing.T) {
	good := []string{
		`{}`, `{"x":"y"}`, `{"users":{}}`, `{"users":{"@a:x":100,"@b:y:80":-5}}`, `{"events":{"":1,"any thing":-2}}`, `{"notifications":{"room":50}}`,
		`{"ban":1,"events_default":-1,"invite":0,"kick":9007199254740991,"redact":3,"state_default":4,"users_default":5}`,
		`{"bans":"x","user":{"a":"b"},"event":[],"historical":null}`,
	}
	bad := []string{`null`, `1`, `"x"`, `[]`, `true`, `[{"ban":1}]`, `{"users":{"a":1}}`, `{"users":{"@A:x":1}}`, `{"users":{"":1}}`, `{"users":{"@a:x":1,"x":2}}`}
	for name := range starts {
		for _, v := range []string{`"50"`, `null`, `true`, `[50]`, `{}`, `{"a":1}`} {
			bad = append(bad, fmt.Sprintf(`{"%s":%s}`, name, v))
		}
	}
	for _, name := range tables {
		for _, v := range []string{`"x"`, `null`, `50`, `[]`, `false`, `{"@a:x":"50"}`, `{"@a:x":null}`, `{"@a:x":1,"@b:x":{}}`} {
			bad = append(bad, fmt.Sprintf(`{"%s":%s}`, name, v))
		}
	}
	for _, s := range good {
		if !power.Valid(parse(t, s)) {
			t.Errorf("Valid(%s): false", s)
		}
	}
	for _, s := range bad {
		if power.Valid(parse(t, s)) {
			t.Errorf("Valid(%s): true", s)
		}
	}
	if power.Valid(api.Value{Kind: api.KindList, Map: []api.Member{{Key: "ban", Val: json.Num(1)}}}) {
		t.Error("a list can't be levels")
	}
}

func TestLevel(t *testing.T) {
	for name, start := range starts {
		for _, s := range []string{`null`, `{}`, `[]`, `"x"`, `5`, `{"` + name + `":"7"}`, `{"` + name + `":null}`, `{"` + name + `":{}}`, `{"other":7}`} {
			if got := power.Level(parse(t, s), name); got != start {
				t.Errorf("Level(%s, %s) = %d, want %d", s, name, got, start)
			}
		}
		if got := power.Level(parse(t, `{"`+name+`":-7}`), name); got != -7 {
			t.Errorf("Level of a told %s: %d", name, got)
		}
	}
	for _, name := range []string{"", "other", "users", "Ban", "notifications"} {
		if got := power.Level(parse(t, `{"ban":3}`), name); got != 0 {
			t.Errorf("Level of %s: %d", name, got)
		}
	}
	if got := power.Level(parse(t, `{"other":9}`), "other"); got != 9 {
		t.Errorf("Level of another name that is told: %d", got)
	}
}

func TestUser(t *testing.T) {
	for _, c := range []struct {
		v, user string
		want    int
	}{
		{`{"users":{"@a:x":100}}`, "@a:x", 100},
		{`{"users":{"@a:x":100}}`, "@b:x", 0},
		{`{"users":{"@a:x":100},"users_default":7}`, "@b:x", 7},
		{`{"users":{"@a:x":-3},"users_default":7}`, "@a:x", -3},
		{`{"users":{"@a:x":0},"users_default":7}`, "@a:x", 0},
		{`{"users":{"@a:x":"100"},"users_default":7}`, "@a:x", 7},
		{`{"users":{"@a:x":null}}`, "@a:x", 0},
		{`{"users":["@a:x"],"users_default":7}`, "@a:x", 7},
		{`{"users_default":"7"}`, "@b:x", 0},
		{`{"@b:x":9}`, "@b:x", 0},
		{`{}`, "@c:x", 0},
		{`{"users":{}}`, "@c:x", 0},
		{`null`, "@c:x", 100},
		{`null`, "@a:x", 0},
		{`null`, "", 0},
		{`[]`, "@c:x", 100},
		{`"x"`, "@c:x", 100},
		{`5`, "@a:x", 0},
	} {
		if got := power.User(parse(t, c.v), "@c:x", c.user); got != c.want {
			t.Errorf("User(%s, %s) = %d, want %d", c.v, c.user, got, c.want)
		}
	}
}

func TestSend(t *testing.T) {
	for _, c := range []struct {
		v            string
		plain, state int
	}{
		{`{}`, 0, 50},
		{`null`, 0, 0},
		{`[]`, 0, 0},
		{`{"users":{"@a:x":100}}`, 0, 50},
		{`{"events_default":3,"state_default":4}`, 3, 4},
		{`{"events":{"k":9},"events_default":3,"state_default":4}`, 9, 9},
		{`{"events":{"k":0}}`, 0, 0},
		{`{"events":{"k":-1}}`, -1, -1},
		{`{"events":{"K":9}}`, 0, 50},
		{`{"events":{"k":"9"},"events_default":3}`, 3, 50},
		{`{"events":"k","state_default":1}`, 0, 1},
		{`{"k":9}`, 0, 50},
		{`{"events_default":"3","state_default":null}`, 0, 50},
	} {
		if got := power.Send(parse(t, c.v), "k", false); got != c.plain {
			t.Errorf("Send(%s) of a message: %d, want %d", c.v, got, c.plain)
		}
		if got := power.Send(parse(t, c.v), "k", true); got != c.state {
			t.Errorf("Send(%s) of a state event: %d, want %d", c.v, got, c.state)
		}
	}
}

type change struct {
	a, b string
	mine int
	want bool
}

func changes() []change {
	var out []change
	for name := range starts {
		one := func(n string) string { return `{"` + name + `":` + n + `}` }
		out = append(out,
			change{`{}`, one("50"), 50, true}, change{`{}`, one("51"), 50, false}, change{one("50"), `{}`, 50, true}, change{one("51"), `{}`, 50, false},
			change{one("50"), one("40"), 50, true}, change{one("51"), one("40"), 50, false}, change{one("40"), one("51"), 50, false}, change{one("60"), one("60"), 50, true},
			change{one(`"60"`), `{}`, 0, true}, change{one(`"60"`), one("60"), 50, false}, change{one("60"), one(`"60"`), 50, false}, change{one("-5"), one("-6"), -5, true}, change{one("-5"), one("-6"), -6, false},
			change{one("60"), `null`, 50, false}, change{`null`, one("60"), 50, false}, change{`null`, one("50"), 50, true},
		)
	}
	for _, name := range tables {
		one := func(n string) string { return `{"` + name + `":{"@b:x":` + n + `,"@c:x":99}}` }
		rest := `{"` + name + `":{"@c:x":99}}`
		below := name != "users" // of users the one in a must be below mine
		out = append(out,
			change{rest, one("50"), 50, true}, change{rest, one("51"), 50, false}, change{one("50"), rest, 50, below}, change{one("49"), rest, 50, true}, change{one("51"), rest, 50, false},
			change{one("50"), one("40"), 50, below}, change{one("49"), one("50"), 50, true}, change{one("49"), one("51"), 50, false}, change{one("51"), one("40"), 50, false}, change{one("60"), one("60"), 50, true},
			change{one(`"60"`), rest, 0, true}, change{one(`"60"`), one("60"), 50, false}, change{one("60"), one("null"), 50, false}, change{one("49"), one("null"), 50, true},
			change{rest, `{}`, 50, false}, change{`{}`, rest, 50, false}, change{rest, `{}`, 100, true}, change{`{}`, rest, 99, true}, change{rest, `{}`, 99, below},
			change{rest, `{"` + name + `":[]}`, 50, false}, change{`{"` + name + `":"x"}`, rest, 50, false}, change{rest, `null`, 50, false},
		)
	}
	return append(out,
		change{`{"users":{"@a:x":50}}`, `{"users":{"@a:x":10}}`, 50, true}, // the own one
		change{`{"users":{"@a:x":50}}`, `{"users":{}}`, 50, true},
		change{`{"users":{"@a:x":50}}`, `{"users":{"@a:x":51}}`, 50, false},
		change{`{"users":{"@a:x":51}}`, `{"users":{"@a:x":10}}`, 50, false},
		change{`{"users":{}}`, `{"users":{"@a:x":50}}`, 50, true},
		change{`{"users":{"@a:x":100}}`, `{"users":{"@a:x":100,"@b:x":50}}`, 50, true},
		change{`{"users":{"@a:x":100}}`, `{"users":{"@a:x":100,"@b:x":51}}`, 50, false},
		change{`{"events":{"@a:x":50}}`, `{"events":{}}`, 50, true},
		change{`{"x":100,"bans":100,"user":{"@b:x":100}}`, `{"y":100}`, 0, true}, // no levels
		change{`{"ban":100}`, `{"ban":100,"x":{"a":100}}`, 0, true},
		change{`null`, `null`, 0, true}, change{`{}`, `{}`, -100, true}, change{`[]`, `"x"`, 0, true},
		change{`{"users":null}`, `{"users":5}`, 0, true},
	)
}

func TestChange(t *testing.T) {
	for _, c := range changes() {
		a, b := parse(t, c.a), parse(t, c.b)
		if got := power.Change(a, b, "@a:x", c.mine); got != c.want {
			t.Errorf("Change(%s, %s, %d) = %v", c.a, c.b, c.mine, got)
		}
		s, _ := json.Canon(a)
		if s != canonical(t, c.a) {
			t.Errorf("Change changed %s", c.a)
		}
	}
}

func canonical(t *testing.T, s string) string {
	c, _ := json.Canon(parse(t, s))
	return c
}

// may is Change once more, over maps of all that is told.
func may(a, b map[string]int, user string, mine int) bool {
	for key, x := range a {
		y, ok := b[key]
		if ok && x == y {
			continue
		}
		of, isUser := strings.CutPrefix(key, "users/")
		if x > mine || ok && y > mine || isUser && of != user && x >= mine {
			return false
		}
	}
	for key, y := range b {
		if _, ok := a[key]; !ok && y > mine {
			return false
		}
	}
	return true
}

// levels makes levels by chance, and the map of all that is told in them.
func levels(rnd *rand.Rand) (api.Value, map[string]int) {
	v, told := json.Map(), map[string]int{}
	for name := range starts {
		if n := rnd.Intn(8); n < 3 {
			v = json.Put(v, name, json.Num(n))
			told[name] = n
		}
	}
	for _, name := range tables {
		inner := json.Map()
		for _, key := range []string{"@a:x", "@b:x", "@c:x"} {
			if n := rnd.Intn(5); n < 3 {
				inner = json.Put(inner, key, json.Num(n))
				told[name+"/"+key] = n
			}
		}
		if len(inner.Map) > 0 || rnd.Intn(2) == 0 {
			v = json.Put(v, name, inner)
		}
	}
	return v, told
}

func TestChangeByChance(t *testing.T) {
	rnd := rand.New(rand.NewSource(1))
	yes := 0
	for range 50000 {
		a, x := levels(rnd)
		b, y := a, x
		if rnd.Intn(2) == 0 {
			b, y = levels(rnd)
		} else { // one level alone is turned
			name := tables[rnd.Intn(3)]
			inner, _ := json.Get(a, name)
			key, n := []string{"@a:x", "@b:x"}[rnd.Intn(2)], rnd.Intn(4)
			b, y = json.Put(a, name, json.Put(inner, key, json.Num(n))), map[string]int{}
			for k, m := range x {
				y[k] = m
			}
			y[name+"/"+key] = n
		}
		mine := rnd.Intn(4)
		want := may(x, y, "@a:x", mine)
		if got := power.Change(a, b, "@a:x", mine); got != want {
			s, _ := json.Canon(a)
			u, _ := json.Canon(b)
			t.Fatalf("Change(%s, %s, %d) = %v", s, u, mine, got)
		}
		if want {
			yes++
		}
		if !power.Change(a, a, "@a:x", mine-9) {
			t.Fatal("what isn't changed may not be left")
		}
	}
	if yes < 1000 {
		t.Error("the test shows nothing")
	}
}

func TestEnds(t *testing.T) {
	bad := api.Value{Kind: api.KindMap, Map: []api.Member{{Key: "users", Val: json.Map()}, {Key: "ban", Val: json.Num(1)}, {Key: "users"}}}
	power.Valid(bad)
	power.Level(bad, "ban")
	power.User(bad, "a", "b")
	power.Send(bad, "a", true)
	power.Change(bad, bad, "a", 1)
}
