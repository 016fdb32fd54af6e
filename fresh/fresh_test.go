package fresh_test

import (
	"reflect"
	"testing"

	"hustings/api"
	"hustings/fresh"
)

func sample() api.Event {
	inner := api.Value{Kind: api.KindMap, Map: []api.Member{{Key: "k", Val: api.Value{Kind: api.KindList, List: []api.Value{{Kind: api.KindNum, N: 1}}}}}}
	return api.Event{Type: "t", Content: inner, Prev: []string{"p"}, Auth: []string{"a"}, Sigs: []api.Sig{{Server: "s"}}}
}

func TestEvent(t *testing.T) {
	e := sample()
	f := fresh.Event(e)
	if !reflect.DeepEqual(e, f) {
		t.Fatal("the copy is another event")
	}
	f.Prev[0], f.Auth[0], f.Sigs[0].Server = "x", "x", "x"
	f.Content.Map[0].Val.List[0].N = 2
	f.Content.Map[0].Key = "x"
	if !reflect.DeepEqual(e, sample()) {
		t.Error("the copy shares memory with the event")
	}
}

func TestEndless(t *testing.T) {
	l := []api.Value{{Kind: api.KindList}}
	l[0].List = l
	if v := fresh.Value(l[0]); len(v.List) != 1 || &v.List[0] == &l[0] {
		t.Error("a value within itself")
	}
	l = append(l, l[0])
	l[0].List, l[1].List = l, l
	if v := fresh.Value(l[0]); len(v.List) != 2 {
		t.Error("a value twice within itself")
	}
	if v := fresh.Value(api.Value{}); !reflect.DeepEqual(v, api.Value{}) {
		t.Error("the copy of null is another value")
	}
}
