package dag_test

import (
	"fmt"
	"math/rand"
	"slices"
	"strings"
	"testing"

	"hustings/api"
	"hustings/dag"
)

// model is a graph once more: for each name all that stands ahead of it.
type model struct {
	names []string
	right map[string][]string
	all   map[string]map[string]bool
}

func newModel() *model {
	return &model{right: map[string][]string{}, all: map[string]map[string]bool{}}
}

func (m *model) add(id string, ahead []string) api.Errno {
	if m.all[id] != nil {
		return api.ErrTwice
	}
	for _, a := range ahead {
		if m.all[a] == nil {
			return api.ErrGap
		}
	}
	if len(m.names) == api.MaxEvents {
		return api.ErrMany
	}
	m.names = append(m.names, id)
	m.right[id] = rising(ahead)
	m.all[id] = map[string]bool{}
	for _, a := range ahead {
		m.all[id][a] = true
		for b := range m.all[a] {
			m.all[id][b] = true
		}
	}
	return api.OK
}

func rising(list []string) []string {
	out := slices.Clone(list)
	slices.Sort(out)
	return slices.Compact(out)
}

func (m *model) past(ids ...string) []string {
	var out []string
	for _, id := range ids {
		if m.all[id] != nil {
			out = append(out, id)
			for a := range m.all[id] {
				out = append(out, a)
			}
		}
	}
	return rising(out)
}

func (m *model) heads() []string {
	var out []string
	for _, id := range m.names {
		if !slices.ContainsFunc(m.names, func(b string) bool { return slices.Contains(m.right[b], id) }) {
			out = append(out, id)
		}
	}
	return rising(out)
}

func less(a, b api.Rank, x, y string) bool {
	if a.A != b.A {
		return a.A < b.A
	}
	if a.B != b.B {
		return a.B < b.B
	}
	if a.S != b.S {
		return a.S < b.S
	}
	return x < y
}

func (m *model) order(ids []string, ranks []api.Rank) []string {
	var out []string
	for len(out) < len(ids) {
		best := -1
		for i, id := range ids {
			waits := slices.ContainsFunc(ids, func(a string) bool { return m.all[id][a] && !slices.Contains(out, a) })
			if !slices.Contains(out, id) && !waits && (best < 0 || less(ranks[i], ranks[best], id, ids[best])) {
				best = i
			}
		}
		out = append(out, ids[best])
	}
	return out
}

func check(t *testing.T, g *dag.Graph, m *model) {
	t.Helper()
	if g.Len() != len(m.names) || !slices.Equal(g.Heads(), m.heads()) {
		t.Fatalf("Len %d, Heads %q; want %d, %q", g.Len(), g.Heads(), len(m.names), m.heads())
	}
	for _, id := range append(slices.Clone(m.names), "nobody", "") {
		if g.Has(id) != (m.all[id] != nil) || !slices.Equal(g.Ahead(id), m.right[id]) || !slices.Equal(g.Past(id), m.past(id)) {
			t.Fatalf("of %q: Has %v, Ahead %q, Past %q; want %q, %q", id, g.Has(id), g.Ahead(id), g.Past(id), m.right[id], m.past(id))
		}
		if m.all[id][id] {
			t.Fatalf("%q stands ahead of itself", id)
		}
	}
}

func random(rnd *rand.Rand, n int) (*dag.Graph, *model) {
	g, m := dag.New(), newModel()
	for _, i := range rnd.Perm(n) {
		var ahead []string
		for range rnd.Intn(4) {
			if len(m.names) > 0 {
				from := max(0, len(m.names)-1-rnd.Intn(6))
				ahead = append(ahead, m.names[from])
			}
		}
		id := fmt.Sprintf("n%02d", i)
		g.Add(id, ahead)
		m.add(id, ahead)
	}
	return g, m
}

func TestExample(t *testing.T) {
	g := dag.New()
	for _, a := range [][]string{{"a"}, {"b", "a"}, {"c", "a"}, {"d", "b", "c"}} {
		if err := g.Add(a[0], a[1:]); err != api.OK {
			t.Fatalf("Add(%q): %d", a, err)
		}
	}
	if got := g.Past("d"); !slices.Equal(got, []string{"a", "b", "c", "d"}) {
		t.Errorf("Past(d): %q", got)
	}
	if got := g.Heads(); !slices.Equal(got, []string{"d"}) {
		t.Errorf("Heads: %q", got)
	}
	if got, err := g.Order([]string{"d", "c", "b"}, []api.Rank{{A: 0}, {A: 1}, {A: 2}}); err != api.OK || !slices.Equal(got, []string{"c", "b", "d"}) {
		t.Errorf("Order: %q, %d", got, err)
	}
}

func TestScripts(t *testing.T) {
	rnd := rand.New(rand.NewSource(1))
	for range 300 {
		g, m := dag.New(), newModel()
		for range rnd.Intn(40) {
			id := fmt.Sprint(rnd.Intn(30))
			var ahead []string
			for range rnd.Intn(4) {
				if len(m.names) > 0 && rnd.Intn(12) > 0 {
					ahead = append(ahead, m.names[rnd.Intn(len(m.names))])
				} else {
					ahead = append(ahead, fmt.Sprint(rnd.Intn(30)))
				}
			}
			before := slices.Clone(ahead)
			got, want := g.Add(id, ahead), m.add(id, ahead)
			if got != want || !slices.Equal(ahead, before) {
				t.Fatalf("Add(%s, %q): %d, want %d", id, ahead, got, want)
			}
		}
		check(t, g, m)
		for range 5 {
			ids := []string{fmt.Sprint(rnd.Intn(30)), fmt.Sprint(rnd.Intn(30)), "nobody", fmt.Sprint(rnd.Intn(30))}
			if got := g.Past(ids...); !slices.Equal(got, m.past(ids...)) {
				t.Fatalf("Past(%q): %q, want %q", ids, got, m.past(ids...))
			}
		}
	}
}

func TestAddErrors(t *testing.T) {
	g, m := dag.New(), newModel()
	add := func(id string, ahead ...string) {
		t.Helper()
		if got, want := g.Add(id, ahead), m.add(id, ahead); got != want {
			t.Errorf("Add(%.9q, %.30q): %d, want %d", id, ahead, got, want)
		}
	}
	add("a", "a") // nothing stands ahead of itself
	add("a", "b")
	add("a")
	add("a")
	add("a", "gap")
	add("b", "a", "gap")
	add("b", "a", "a")
	add("")
	add("c", "", "a", "b", "", "b")
	check(t, g, m)
	for i := len(m.names); i < api.MaxEvents; i++ {
		add(fmt.Sprint("x", i), m.names[len(m.names)-1])
	}
	add("one more")
	add("one more", "a")
	add("one more", "gap")
	add("a")
	add("a", "gap")
	if g.Len() != api.MaxEvents || g.Has("one more") {
		t.Errorf("%d names", g.Len())
	}
	if got := g.Past(m.names[len(m.names)-1]); !slices.Equal(got, m.past(m.names[len(m.names)-1])) {
		t.Errorf("the past of a long line has %d names", len(got))
	}
}

func TestNil(t *testing.T) {
	var g *dag.Graph
	if g.Add("a", nil) != api.ErrNil || g.Has("a") || len(g.Ahead("a")) != 0 || len(g.Past("a")) != 0 || len(g.Heads()) != 0 || g.Len() != 0 {
		t.Error("a nil graph has names")
	}
	if out, err := g.Order(nil, []api.Rank{{}}); err != api.ErrNil || len(out) != 0 {
		t.Errorf("Order of a nil graph: %d", err)
	}
	e := dag.New()
	if e.Len() != 0 || len(e.Heads()) != 0 || len(e.Past("a")) != 0 || len(e.Past()) != 0 {
		t.Error("a new graph has names")
	}
	if out, err := e.Order(nil, nil); err != api.OK || len(out) != 0 {
		t.Errorf("Order of no names: %q, %d", out, err)
	}
}

func TestOrder(t *testing.T) {
	rnd := rand.New(rand.NewSource(2))
	for range 2000 {
		g, m := random(rnd, 1+rnd.Intn(25))
		var ids []string
		for _, i := range rnd.Perm(len(m.names))[:rnd.Intn(len(m.names)+1)] {
			ids = append(ids, m.names[i])
		}
		ranks := make([]api.Rank, len(ids))
		for i := range ranks {
			ranks[i] = api.Rank{A: rnd.Intn(3) - 1, B: rnd.Intn(3) - 1, S: string(rune('a' + rnd.Intn(3)))}
		}
		before := slices.Clone(ids)
		got, err := g.Order(ids, ranks)
		if want := m.order(ids, ranks); err != api.OK || !slices.Equal(got, want) || !slices.Equal(ids, before) {
			t.Fatalf("Order(%q, %v): %q, %d; want %q", ids, ranks, got, err, want)
		}
	}
}

// Names further ahead count, through others that aren't asked for.
func TestOrderThrough(t *testing.T) {
	g := dag.New()
	for i := range 400 {
		var ahead []string
		if i > 0 {
			ahead = []string{fmt.Sprint(i - 1)}
		}
		g.Add(fmt.Sprint(i), ahead)
	}
	g.Add("z", []string{"0"})
	ids := []string{"399", "z", "7", "200"}
	got, err := g.Order(ids, []api.Rank{{A: -9}, {A: -1}, {A: 5}, {A: -8}})
	if err != api.OK || !slices.Equal(got, []string{"z", "7", "200", "399"}) {
		t.Errorf("Order: %q, %d", got, err)
	}
}

// Where all ranks rise with the order in which the names came, it is theirs.
func TestOrderByComing(t *testing.T) {
	rnd := rand.New(rand.NewSource(3))
	for range 200 {
		g, m := random(rnd, 30)
		ids := slices.Clone(m.names)
		ranks := make([]api.Rank, len(ids))
		kind := rnd.Intn(3)
		for i := range ranks {
			ranks[i] = []api.Rank{{A: i}, {B: i}, {S: fmt.Sprintf("%03d", i)}}[kind]
		}
		rnd.Shuffle(len(ids), func(i, j int) {
			ids[i], ids[j], ranks[i], ranks[j] = ids[j], ids[i], ranks[j], ranks[i]
		})
		if got, _ := g.Order(ids, ranks); !slices.Equal(got, m.names) {
			t.Fatalf("Order: %q, want %q", got, m.names)
		}
	}
}

func TestOrderErrors(t *testing.T) {
	g := dag.New()
	g.Add("a", nil)
	g.Add("b", []string{"a"})
	one, two, three := make([]api.Rank, 1), make([]api.Rank, 2), make([]api.Rank, 3)
	for i, c := range []struct {
		ids   []string
		ranks []api.Rank
		want  api.Errno
	}{
		{[]string{"a"}, nil, api.ErrArg}, {nil, one, api.ErrArg}, {[]string{"a", "b"}, one, api.ErrArg}, {[]string{"x", "x"}, one, api.ErrArg},
		{[]string{"a", "a"}, two, api.ErrTwice}, {[]string{"x", "x"}, two, api.ErrTwice}, {[]string{"x", "a", "a"}, three, api.ErrTwice},
		{[]string{"a", "x"}, two, api.ErrNone}, {[]string{""}, one, api.ErrNone}, {[]string{"b", "a"}, two, api.OK},
	} {
		if got, err := g.Order(c.ids, c.ranks); err != c.want || err != api.OK && len(got) != 0 {
			t.Errorf("case %d: %q, %d; want %d", i, got, err, c.want)
		}
	}
}

func TestMemory(t *testing.T) {
	g := dag.New()
	g.Add("a", nil)
	g.Add("b", nil)
	ahead := append(make([]string, 0, 8), "b", "a")
	g.Add("c", ahead)
	if ahead[0] != "b" || ahead[1] != "a" || ahead[:3][2] != "" {
		t.Error("Add changed what it was handed")
	}
	ahead[0], ahead[1] = "x", "x"
	for range 2 {
		for i, list := range [][]string{g.Ahead("c"), g.Heads(), g.Past("c", "a")} {
			if want := [][]string{{"a", "b"}, {"c"}, {"a", "b", "c"}}[i]; !slices.Equal(list, want) {
				t.Errorf("list %d: %q, want %q", i, list, want)
			}
			for j := range list {
				list[j] = "written"
			}
		}
		ids := []string{"c", "b"}
		out, _ := g.Order(ids, make([]api.Rank, 2))
		if strings.Join(out, "") != "bc" {
			t.Errorf("Order: %q", out)
		}
		out[0], out[1] = "written", "written"
		if ids[0] != "c" {
			t.Error("Order shares memory with what it was handed")
		}
		room := append(make([]string, 0, 8), "c")
		g.Past(room...)
		if room[:2][1] != "" {
			t.Error("Past wrote into spare room")
		}
	}
	h := dag.New()
	h.Add("only", nil)
	if g.Has("only") || h.Has("a") {
		t.Error("two graphs know of one another")
	}
}
