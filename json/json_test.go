package json_test

import (
	"reflect"
	"strings"
	"testing"

	"hustings/api"
	"hustings/json"
)

func member(key string, v api.Value) api.Member { return api.Member{Key: key, Val: v} }

func table(list ...api.Member) api.Value { return api.Value{Kind: api.KindMap, Map: list} }

func num(n int) api.Value { return api.Value{Kind: api.KindNum, N: n} }

func text(s string) api.Value { return api.Value{Kind: api.KindText, S: s} }

func list(vals ...api.Value) api.Value { return api.Value{Kind: api.KindList, List: vals} }

// same: whether values are the same, empty lists counting like none.
func same(a, b api.Value) bool {
	if a.Kind != b.Kind || a.Is != b.Is || a.N != b.N || a.S != b.S || len(a.List) != len(b.List) || len(a.Map) != len(b.Map) {
		return false
	}
	for i := range a.List {
		if !same(a.List[i], b.List[i]) {
			return false
		}
	}
	for i := range a.Map {
		if a.Map[i].Key != b.Map[i].Key || !same(a.Map[i].Val, b.Map[i].Val) {
			return false
		}
	}
	return true
}

func want(t *testing.T, what string, got, v api.Value) {
	t.Helper()
	if !same(got, v) {
		t.Errorf("%s: %+v, want %+v", what, got, v)
	}
}

func TestMakers(t *testing.T) {
	want(t, "Num", json.Num(-7), num(-7))
	want(t, "Num beyond", json.Num(api.MaxNum+1), num(api.MaxNum+1))
	want(t, "Text", json.Text("a"), text("a"))
	want(t, "Bool", json.Bool(true), api.Value{Kind: api.KindBool, Is: true})
	want(t, "Bool", json.Bool(false), api.Value{Kind: api.KindBool})
	want(t, "List", json.List(num(1), text("b")), list(num(1), text("b")))
	want(t, "no List", json.List(), list())
	want(t, "Map", json.Map(), table())
	want(t, "Map", json.Map(member("b", num(1)), member("a", num(2)), member("c", num(3))), table(member("a", num(2)), member("b", num(1)), member("c", num(3))))
	want(t, "Map, twice", json.Map(member("b", num(1)), member("a", num(2)), member("b", num(3)), member("a", num(4)), member("b", num(5))), table(member("a", num(4)), member("b", num(5))))
	want(t, "Map by bytes", json.Map(member("é", num(1)), member("z", num(2)), member("", num(3)), member("Z", num(4)), member("aa", num(5)), member("a", num(6))),
		table(member("", num(3)), member("Z", num(4)), member("a", num(6)), member("aa", num(5)), member("z", num(2)), member("é", num(1))))
	many := []api.Member{}
	for i := range 100 {
		many = append(many, member("k", num(i)), member("j", num(-i)))
	}
	want(t, "Map, often", json.Map(many...), table(member("j", num(-99)), member("k", num(99))))
}

func TestGetPutDrop(t *testing.T) {
	v := table(member("a", num(1)), member("c", list(num(2))), member("e", api.Value{}))
	for key, w := range map[string]api.Value{"a": num(1), "c": list(num(2)), "e": {}} {
		got, ok := json.Get(v, key)
		if !ok {
			t.Errorf("Get(%s): false", key)
		}
		want(t, "Get", got, w)
	}
	for _, key := range []string{"", "b", "d", "f", "A"} {
		if got, ok := json.Get(v, key); ok || !same(got, api.Value{}) {
			t.Errorf("Get(%s): %+v, %v", key, got, ok)
		}
	}
	odd := api.Value{Kind: api.KindList, Map: v.Map, List: []api.Value{num(1)}}
	for _, w := range []api.Value{{}, num(1), text("a"), list(num(1)), odd, {Kind: 9, Map: v.Map}} {
		if got, ok := json.Get(w, "a"); ok || !same(got, api.Value{}) {
			t.Errorf("Get of no map: %+v, %v", got, ok)
		}
		want(t, "Put into no map", json.Put(w, "k", num(3)), table(member("k", num(3))))
		want(t, "Drop from no map", json.Drop(w, "a"), table())
	}
	want(t, "Put at the end", json.Put(v, "f", num(9)), table(v.Map[0], v.Map[1], v.Map[2], member("f", num(9))))
	want(t, "Put between", json.Put(v, "b", num(9)), table(v.Map[0], member("b", num(9)), v.Map[1], v.Map[2]))
	want(t, "Put ahead", json.Put(v, "", num(9)), table(member("", num(9)), v.Map[0], v.Map[1], v.Map[2]))
	want(t, "Put in its place", json.Put(v, "c", num(9)), table(v.Map[0], member("c", num(9)), v.Map[2]))
	want(t, "Put null", json.Put(v, "a", api.Value{}), table(member("a", api.Value{}), v.Map[1], v.Map[2]))
	want(t, "Drop", json.Drop(v, "c"), table(v.Map[0], v.Map[2]))
	want(t, "Drop the first", json.Drop(v, "a"), table(v.Map[1], v.Map[2]))
	want(t, "Drop none", json.Drop(v, "b"), v)
	want(t, "Drop all", json.Drop(json.Drop(json.Drop(v, "a"), "c"), "e"), table())
	bad := table(member("z", num(1)), member("a", num(2)), member("z", num(3)))
	for _, key := range []string{"a", "b", "z", ""} { // nothing is promised, but that they end
		json.Get(bad, key)
		json.Put(bad, key, num(1))
		json.Drop(bad, key)
	}
}

// write writes into all that it reaches of a value.
func write(v api.Value) {
	for i := range v.List {
		write(v.List[i])
		v.List[i] = num(-99)
	}
	for i := range v.Map {
		write(v.Map[i].Val)
		v.Map[i] = member("written", num(-99))
	}
}

func TestMemory(t *testing.T) {
	make1 := func() api.Value {
		return table(member("a", list(num(1), table(member("x", list(num(2)))))), member("b", table(member("y", num(3)))))
	}
	v := make1()
	got, _ := json.Get(v, "a")
	write(got)
	want(t, "v behind writing into what Get answered", v, make1())
	write(json.Drop(v, "b"))
	want(t, "v behind writing into what Drop answered", v, make1())
	room := make([]api.Member, 2, 8)
	copy(room, v.Map)
	put := json.Put(table(room...), "c", num(5))
	put2 := json.Put(api.Value{Kind: api.KindMap, Map: room}, "c", num(6))
	want(t, "the first Put", put, table(v.Map[0], v.Map[1], member("c", num(5))))
	if !reflect.DeepEqual(room[:3:3][2], api.Member{}) {
		t.Error("Put wrote into the spare room of what it was handed")
	}
	put2.Map[0] = member("written", num(1))
	json.Put(api.Value{Kind: api.KindMap, Map: room}, "a", num(6)).Map[1] = member("written", num(1))
	want(t, "what Put was handed", api.Value{Kind: api.KindMap, Map: room}, make1())
	vals := []api.Value{num(1), num(2), num(3)}
	l := json.List(vals[:2]...)
	vals[0] = num(9)
	want(t, "List", l, list(num(1), num(2)))
	l.List[1] = num(8)
	l.List = append(l.List, num(7))
	want(t, "what List was handed", list(vals...), list(num(9), num(2), num(3)))
	members := []api.Member{member("b", num(1)), member("a", num(2))}
	m := json.Map(members...)
	want(t, "what Map was handed", table(members...), table(member("b", num(1)), member("a", num(2))))
	members[0].Key = "z"
	want(t, "Map", m, table(member("a", num(2)), member("b", num(1))))
	rising := []api.Member{member("a", num(1)), member("b", num(2))}
	json.Map(rising...).Map[0] = member("written", num(0))
	want(t, "what Map was handed, rising", table(rising...), table(member("a", num(1)), member("b", num(2))))
	one, _ := json.Parse(`{"a":[1,{"b":2}]}`)
	two, _ := json.Parse(`{"a":[1,{"b":2}]}`)
	write(one)
	want(t, "two answers of Parse", two, table(member("a", list(num(1), table(member("b", num(2)))))))
	before := make1()
	json.Canon(v)
	want(t, "what Canon was handed", v, before)
}

func nest(open, inner, shut string, n int) string {
	return strings.Repeat(open, n) + inner + strings.Repeat(shut, n)
}

func TestParse(t *testing.T) {
	for s, w := range map[string]api.Value{
		"null":                        {},
		" \t\r\ntrue":                 {Kind: api.KindBool, Is: true},
		"false \n":                    {Kind: api.KindBool},
		"0":                           num(0),
		"-1":                          num(-1),
		"9007199254740991":            num(api.MaxNum),
		"-9007199254740991":           num(-api.MaxNum),
		`"a\u00e9"`:                   text("aé"),
		"[]":                          list(),
		" [ ] ":                       list(),
		"{}":                          table(),
		" { } ":                       table(),
		"[1,2]":                       list(num(1), num(2)),
		"\n[ 1 ,\t2 ]\r":              list(num(1), num(2)),
		"[[],[[]],{}]":                list(list(), list(list()), table()),
		`{"b":1, "a":[true]}`:         table(member("a", list(api.Value{Kind: api.KindBool, Is: true})), member("b", num(1))),
		` { "b" : 1 , "" : { } } `:    table(member("", table()), member("b", num(1))),
		`{"a":{"a":1},"b":[{"a":2}]}`: table(member("a", table(member("a", num(1)))), member("b", list(table(member("a", num(2)))))),
		`{"\u0061":1,"B":2,"é":null}`: table(member("B", num(2)), member("a", num(1)), member("é", api.Value{})),
		`[null,"x",-5]`:               list(api.Value{}, text("x"), num(-5)),
	} {
		got, e := json.Parse(s)
		if e != api.OK {
			t.Errorf("Parse(%s): %d", s, e)
		}
		want(t, "Parse of "+s, got, w)
	}
	if _, e := json.Parse(nest("[", "", "]", 32)); e != api.OK {
		t.Errorf("32 lists: %d", e)
	}
	if _, e := json.Parse(nest(`{"a":`, "1", "}", 32)); e != api.OK {
		t.Errorf("32 maps: %d", e)
	}
	if _, e := json.Parse("[" + nest("[", "", "]", 31) + "," + nest("[", "", "]", 31) + "]"); e != api.OK {
		t.Errorf("32 lists, twice: %d", e)
	}
	full := strings.Repeat(" ", api.MaxBytes-1)
	if _, e := json.Parse(full + "1"); e != api.OK {
		t.Errorf("a text of MaxBytes: %d", e)
	}
}

func TestParseFaults(t *testing.T) {
	deep := nest("[", "", "]", 33)
	full := strings.Repeat(" ", api.MaxBytes-1)
	for s, w := range map[string]api.Errno{
		full + "12":                     api.ErrLong,
		full + "  ":                     api.ErrLong,
		full + "[":                      api.ErrForm,
		full + " ":                      api.ErrForm,
		"":                              api.ErrForm,
		" ":                             api.ErrForm,
		"1.0":                           api.ErrNumber,
		"-0":                            api.ErrNumber,
		"-0.0":                          api.ErrNumber,
		"-0e1":                          api.ErrNumber,
		"1e5":                           api.ErrNumber,
		"1E+5":                          api.ErrNumber,
		"1e-5":                          api.ErrNumber,
		"0.5":                           api.ErrNumber,
		"12.50e07":                      api.ErrNumber,
		"9007199254740992":              api.ErrNumber,
		"-9007199254740992":             api.ErrNumber,
		"9223372036854775808":           api.ErrNumber,
		"18446744073709551617":          api.ErrNumber,
		"1" + strings.Repeat("0", 400):  api.ErrNumber,
		"[1.0":                          api.ErrNumber,
		"[-0x":                          api.ErrNumber,
		"1.0 x":                         api.ErrNumber,
		"01":                            api.ErrForm,
		"-01":                           api.ErrForm,
		"00":                            api.ErrForm,
		"-":                             api.ErrForm,
		"--1":                           api.ErrForm,
		"+1":                            api.ErrForm,
		".5":                            api.ErrForm,
		"1.":                            api.ErrForm,
		"1.e5":                          api.ErrForm,
		"1e":                            api.ErrForm,
		"1e+":                           api.ErrForm,
		"1e+-5":                         api.ErrForm,
		"1e5.5":                         api.ErrForm,
		"1e5e5":                         api.ErrForm,
		"1.5.5":                         api.ErrForm,
		"01.5":                          api.ErrForm,
		"1-2":                           api.ErrForm,
		"1+":                            api.ErrForm,
		"-e5":                           api.ErrForm,
		"e5":                            api.ErrForm,
		"1 2":                           api.ErrForm,
		"- 1":                           api.ErrForm,
		"1x":                            api.ErrForm,
		"0x10":                          api.ErrForm,
		"1_000":                         api.ErrForm,
		"1,":                            api.ErrForm,
		"nul":                           api.ErrForm,
		"nullx":                         api.ErrForm,
		"Null":                          api.ErrForm,
		"truefalse":                     api.ErrForm,
		"tru e":                         api.ErrForm,
		"[":                             api.ErrForm,
		"]":                             api.ErrForm,
		"[1":                            api.ErrForm,
		"[1,":                           api.ErrForm,
		"[1,]":                          api.ErrForm,
		"[,1]":                          api.ErrForm,
		"[1 2]":                         api.ErrForm,
		"[1}":                           api.ErrForm,
		"[]]":                           api.ErrForm,
		"[1:2]":                         api.ErrForm,
		"{":                             api.ErrForm,
		"{]":                            api.ErrForm,
		"{,}":                           api.ErrForm,
		"{1:2}":                         api.ErrForm,
		"{[":                            api.ErrForm,
		`{"a"}`:                         api.ErrForm,
		`{"a":}`:                        api.ErrForm,
		`{"a":1,}`:                      api.ErrForm,
		`{"a":1 "b":2}`:                 api.ErrForm,
		`{"a" 1}`:                       api.ErrForm,
		`{"a":1]`:                       api.ErrForm,
		`{"a":1`:                        api.ErrForm,
		`{a:1}`:                         api.ErrForm,
		`{"a":1}{}`:                     api.ErrForm,
		`"a`:                            api.ErrForm,
		`"\x"`:                          api.ErrForm,
		`"a" "b"`:                       api.ErrForm,
		"\"\xff\"":                      api.ErrForm,
		"\xff":                          api.ErrForm,
		"\x00":                          api.ErrForm,
		"1\x00":                         api.ErrForm,
		"[1\x00]":                       api.ErrForm,
		"\ufeff1":                       api.ErrForm,
		"\v1":                           api.ErrForm,
		"1\f":                           api.ErrForm,
		"\u00a01":                       api.ErrForm,
		`{"a":1,"a":2}`:                 api.ErrTwice,
		`{"a":1,"a"}`:                   api.ErrTwice,
		`{"a":1,"\u0061" x`:             api.ErrTwice,
		`{"a":1,"b":2,"a"`:              api.ErrTwice,
		`{"":1,"":2}`:                   api.ErrTwice,
		`{"a":{"a":1,"a":2}}`:           api.ErrTwice,
		`{"a":1,"a`:                     api.ErrForm,
		`{"a":1.5,"a":2}`:               api.ErrNumber,
		`{"a":x,"a":2}`:                 api.ErrForm,
		`{"a":1,"a":1.5}`:               api.ErrTwice,
		deep:                            api.ErrDeep,
		strings.Repeat("[", 33):         api.ErrDeep,
		strings.Repeat("[", 32):         api.ErrForm,
		strings.Repeat("[", 32) + "{":   api.ErrDeep,
		nest(`{"a":`, "1", "}", 33):     api.ErrDeep,
		nest(`{"a":`, "", "", 32) + "[": api.ErrDeep,
		nest("[", "", "", 31) + "{[":    api.ErrForm,
		nest("[", "1[", "", 32):         api.ErrForm,
		"[1.0," + deep:                  api.ErrNumber,
		"[" + deep + ",1.0]":            api.ErrDeep,
		"[x," + deep:                    api.ErrForm,
	} {
		if got, e := json.Parse(s); e != w || !reflect.DeepEqual(got, api.Value{}) {
			t.Errorf("Parse(%.60q): %+v, %d; want %d", s, got, e, w)
		}
	}
}

func TestCanon(t *testing.T) {
	for s, v := range map[string]api.Value{
		"null":                       {},
		"true":                       {Kind: api.KindBool, Is: true},
		"false":                      {Kind: api.KindBool},
		"9007199254740991":           num(api.MaxNum),
		"-9007199254740991":          num(-api.MaxNum),
		"0":                          num(0),
		"\"a\\\"\\\\/\\u0001é\x7f\"": text("a\"\\/\x01é\x7f"),
		"[]":                         list(),
		"{}":                         table(),
		`{"a":[true],"b":1}`:         table(member("a", list(api.Value{Kind: api.KindBool, Is: true})), member("b", num(1))),
		`{"":1,"A":2,"a":3,"é":4}`:   table(member("", num(1)), member("A", num(2)), member("a", num(3)), member("é", num(4))),
		`[[],{},[1,2],"x",null]`:     list(list(), table(), list(num(1), num(2)), text("x"), api.Value{}),
	} {
		if got, e := json.Canon(v); got != s || e != api.OK {
			t.Errorf("Canon of %+v: %s, %d; want %s", v, got, e, s)
		}
	}
	empty := api.Value{Kind: api.KindNum, List: []api.Value{}, Map: []api.Member{}}
	if got, e := json.Canon(empty); got != "0" || e != api.OK {
		t.Errorf("a number with empty lists: %s, %d", got, e)
	}
	v, _ := json.Parse(` {"b":1, "a":[true]}`)
	if got, _ := json.Canon(v); got != `{"a":[true],"b":1}` {
		t.Errorf("the example: %s", got)
	}
}

func deepList(n int, inner api.Value) api.Value {
	for range n {
		inner = list(inner)
	}
	return inner
}

func deepMap(n int, inner api.Value) api.Value {
	for range n {
		inner = table(member("a", inner))
	}
	return inner
}

func TestCanonFaults(t *testing.T) {
	one := []api.Value{num(1)}
	members := []api.Member{member("a", num(1))}
	long := strings.Repeat("a", api.MaxBytes+1)
	whole := strings.Repeat("a", api.MaxBytes-2)
	bad := text("\xff")
	for i, c := range []struct {
		v api.Value
		e api.Errno
	}{
		{api.Value{Kind: -1}, api.ErrArg},
		{api.Value{Kind: 6}, api.ErrArg},
		{api.Value{Is: true}, api.ErrArg},
		{api.Value{N: 1}, api.ErrArg},
		{api.Value{S: "a"}, api.ErrArg},
		{api.Value{List: one}, api.ErrArg},
		{api.Value{Map: members}, api.ErrArg},
		{api.Value{Kind: api.KindBool, N: 1}, api.ErrArg},
		{api.Value{Kind: api.KindBool, S: "true"}, api.ErrArg},
		{api.Value{Kind: api.KindNum, Is: true}, api.ErrArg},
		{api.Value{Kind: api.KindNum, S: "1"}, api.ErrArg},
		{api.Value{Kind: api.KindText, N: 1}, api.ErrArg},
		{api.Value{Kind: api.KindText, List: one}, api.ErrArg},
		{api.Value{Kind: api.KindList, Map: members}, api.ErrArg},
		{api.Value{Kind: api.KindList, S: "a"}, api.ErrArg},
		{api.Value{Kind: api.KindMap, List: one}, api.ErrArg},
		{api.Value{Kind: api.KindMap, Is: true}, api.ErrArg},
		{num(api.MaxNum + 1), api.ErrArg},
		{num(-api.MaxNum - 1), api.ErrArg},
		{num(1<<63 - 1), api.ErrArg},
		{num(-1 << 63), api.ErrArg},
		{bad, api.ErrArg},
		{list(bad), api.ErrArg},
		{table(member("\xff", num(1))), api.ErrArg},
		{table(member("b", num(1)), member("a", num(2))), api.ErrArg},
		{table(member("a", num(1)), member("a", num(2))), api.ErrArg},
		{table(member("b", deepList(32, num(1))), member("a", num(2))), api.ErrDeep},
		{table(member("b", num(1)), member("a", deepList(32, num(1)))), api.ErrArg},
		{deepList(32, num(1)), api.OK},
		{deepList(33, num(1)), api.ErrDeep},
		{deepList(32, table()), api.ErrDeep},
		{deepList(31, table(member("a", list()))), api.ErrDeep},
		{deepList(32, bad), api.ErrArg},
		{deepList(33, bad), api.ErrDeep},
		{deepList(32, api.Value{Kind: api.KindList, N: 1}), api.ErrArg},
		{deepList(3000, num(1)), api.ErrDeep},
		{deepMap(32, num(1)), api.OK},
		{deepMap(33, num(1)), api.ErrDeep},
		{deepMap(16, deepList(16, num(1))), api.OK},
		{deepMap(16, deepList(16, list())), api.ErrDeep},
		{deepList(16, deepMap(16, table())), api.ErrDeep},
		{list(deepList(32, num(1)), bad), api.ErrDeep},
		{list(bad, deepList(32, num(1))), api.ErrArg},
		{text(whole), api.OK},
		{text(whole + "a"), api.ErrLong},
		{text(whole + "é"), api.ErrLong},
		{text(whole[2:] + "\n"), api.OK},
		{text(whole[1:] + "\n"), api.ErrLong},
		{text(strings.Repeat("\x01", api.MaxBytes/6)), api.OK},
		{text(strings.Repeat("\x01", api.MaxBytes/6+1)), api.ErrLong},
		{text(long), api.ErrLong},
		{text(long[1:]), api.ErrLong},
		{text("\xff" + long), api.ErrLong},
		{text("\xff" + long[2:]), api.ErrArg},
		{table(member("\xff"+long, num(1))), api.ErrLong},
		{table(member("\xff"+long[2:], num(1))), api.ErrArg},
		{list(text(whole)), api.ErrLong},
		{list(text(whole[2:])), api.OK},
		{list(text(whole[2:]), num(1)), api.ErrLong},
		{list(text(whole[1:]), bad), api.ErrLong},
		{list(text(whole[2:]), bad), api.ErrArg},
		{list(text(whole[2:]), text("\xff"+long)), api.ErrLong},
		{list(bad, text(whole)), api.ErrArg},
		{list(text(whole), bad), api.ErrLong},
		{table(member("b", text(whole[7:])), member("a", num(1))), api.ErrArg},
		{table(member("b", text(whole[6:])), member("a", num(1))), api.ErrArg},
		{table(member("b", text(whole[5:])), member("a", num(1))), api.ErrLong},
		{table(member("a", num(1)), member("b", bad), member("a", num(1))), api.ErrArg},
	} {
		got, e := json.Canon(c.v)
		if e != c.e || e != api.OK && got != "" {
			t.Errorf("case %d: %.40q, %d; want %d", i, got, e, c.e)
		}
	}
}

// A value that has one part many times over has too many bytes long ahead of the end of its parts.
func TestCanonEnds(t *testing.T) {
	v := num(1)
	for range 31 {
		v = list(v, v, v, v)
	}
	if _, e := json.Canon(v); e != api.ErrLong {
		t.Errorf("4^31 numbers: %d", e)
	}
	l := []api.Value{{Kind: api.KindList}}
	l[0].List = l
	if _, e := json.Canon(l[0]); e != api.ErrDeep {
		t.Errorf("a list within itself: %d", e)
	}
}

// Each byte ahead of a value, behind it, and within a number.
func TestEveryByte(t *testing.T) {
	for c := range 256 {
		b := string([]byte{byte(c)})
		for _, s := range []string{b + "[]", "[]" + b, "[" + b + "]", "1" + b, "[1" + b + "1]", "1" + b + "1", "-" + b, "0" + b + "1", "1e" + b, `{` + b + `"a":1}`, `{"a"` + b + `:1}`, `{"a":1` + b + `}`, `[1` + b + `,1]`, "nul" + b, b + "ull", b} {
			checkParse(t, s)
		}
	}
}
