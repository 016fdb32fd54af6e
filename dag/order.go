package dag

import (
	"cmp"
	"container/heap"
	"strings"

	"hustings/api"
)

// item is a name that may come next in an order, with its rank.
type item struct {
	rank api.Rank
	id   string
}

func compare(a, b item) int {
	return cmp.Or(cmp.Compare(a.rank.A, b.rank.A), cmp.Compare(a.rank.B, b.rank.B), strings.Compare(a.rank.S, b.rank.S), strings.Compare(a.id, b.id))
}

// ready is a heap of items, as the library asks for one.
type ready []item

func (r ready) Len() int           { return len(r) }
func (r ready) Less(i, j int) bool { return compare(r[i], r[j]) < 0 }
func (r ready) Swap(i, j int)      { r[i], r[j] = r[j], r[i] }
func (r *ready) Push(x any)        { *r = append(*r, x.(item)) }

func (r *ready) Pop() any {
	last := len(*r) - 1
	x := (*r)[last]
	*r = (*r)[:last]
	return x
}

// order is one under way. Names that aren't asked for pass as soon as they can, so that what stands behind them waits for just those that are.
type order struct {
	ranks  map[string]api.Rank
	behind map[string][]string // of each name of the past those right behind it
	counts map[string]int      // how many right ahead of it haven't passed
	ready  ready
}

// Order: names so that none stands ahead of one that it is behind, by ranks where they may; ErrNil, ErrArg, ErrTwice, ErrNone.
func (g *Graph) Order(ids []string, ranks []api.Rank) ([]string, api.Errno) {
	if g == nil {
		return nil, api.ErrNil
	}
	if len(ids) != len(ranks) {
		return nil, api.ErrArg
	}
	o := &order{ranks: map[string]api.Rank{}, behind: map[string][]string{}, counts: map[string]int{}}
	for i, id := range ids {
		if _, twice := o.ranks[id]; twice {
			return nil, api.ErrTwice
		}
		o.ranks[id] = ranks[i]
	}
	for _, id := range ids {
		if !g.Has(id) {
			return nil, api.ErrNone
		}
	}
	return o.run(g, ids), api.OK
}

func (o *order) run(g *Graph, ids []string) []string {
	var first []string
	for id := range g.past(ids) {
		o.counts[id] = len(g.ahead[id])
		if len(g.ahead[id]) == 0 {
			first = append(first, id)
		}
		for _, a := range g.ahead[id] {
			o.behind[a] = append(o.behind[a], id)
		}
	}
	o.free(first)
	out := make([]string, 0, len(ids))
	for o.ready.Len() > 0 {
		next := heap.Pop(&o.ready).(item)
		out = append(out, next.id)
		o.free(o.passed(next.id))
	}
	return out
}

// passed: the names right behind one that now wait for none any more.
func (o *order) passed(id string) []string {
	var out []string
	for _, b := range o.behind[id] {
		o.counts[b]--
		if o.counts[b] == 0 {
			out = append(out, b)
		}
	}
	return out
}

// free: names that wait for none may come next, or pass if they aren't asked for.
func (o *order) free(ids []string) {
	for len(ids) > 0 {
		id := ids[len(ids)-1]
		ids = ids[:len(ids)-1]
		if rank, asked := o.ranks[id]; asked {
			heap.Push(&o.ready, item{rank, id})
		} else {
			ids = append(ids, o.passed(id)...)
		}
	}
}
