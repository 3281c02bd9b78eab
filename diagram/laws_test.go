package diagram

import (
	"slices"
	"testing"

	"tollbridge/api"
	"tollbridge/nodes"
)

// P21.6: what is one node, whatever the diagram, and takes no new one.
func TestSame(t *testing.T) {
	for seed := range 2000 {
		m, s := newMaker(seed), nodes.New()
		none, one := leaf(t, s), leaf(t, s, nil)
		a := m.any(t, s)
		count := s.Len()
		wantSame(t, "Union(a, a)", a)(Union(s, a, a))
		wantSame(t, "Union(a, none)", a)(Union(s, a, none))
		wantSame(t, "Union(none, a)", a)(Union(s, none, a))
		wantSame(t, "Then(a, one)", a)(Then(s, a, one))
		wantSame(t, "Then(one, a)", a)(Then(s, one, a))
		wantSame(t, "Then(a, none)", none)(Then(s, a, none))
		wantSame(t, "Then(none, a)", none)(Then(s, none, a))
		if s.Len() != count {
			t.Error("seed", seed, "left nodes behind")
		}
	}
}

// joiner tells diagrams put together, or fails.
type joiner struct {
	t *testing.T
	s *nodes.Store
}

func (j joiner) union(a, b int) int { return made(j.t)(Union(j.s, a, b)) }
func (j joiner) then(a, b int) int  { return made(j.t)(Then(j.s, a, b)) }
func (j joiner) star(a int) int     { return made(j.t)(Star(j.s, a)) }
func (j joiner) not(a int) int      { return made(j.t)(Not(j.s, a)) }

// P21.6, P9: what the laws of the algebra make alike makes the same of every header.
// (It is even one node, once it was put together: so stars see that nothing is new.)
func TestLaws(t *testing.T) {
	for seed := range 200 {
		m, s := newMaker(seed), nodes.New()
		if len(m.headers()) > 81 {
			continue // a star of a star is great work
		}
		j := joiner{t, s}
		none, one := leaf(t, s), leaf(t, s, nil)
		a, b, c := j.union(m.any(t, s), leaf(t, s, sets(0, 1))), m.any(t, s), m.any(t, s)
		p, q := m.diagram(t, s, 0, 1, true), m.diagram(t, s, 0, 1, true)
		star := j.star(a)
		for what, both := range map[string][2]int{
			"union turned about":   {j.union(a, b), j.union(b, a)},
			"union of three":       {j.union(j.union(a, b), c), j.union(a, j.union(b, c))},
			"then of three":        {j.then(j.then(a, b), c), j.then(a, j.then(b, c))},
			"then over a union":    {j.then(j.union(a, b), c), j.union(j.then(a, c), j.then(b, c))},
			"then before a union":  {j.then(c, j.union(a, b)), j.union(j.then(c, a), j.then(c, b))},
			"a star and one round": {star, j.union(one, j.then(a, star))},
			"one round and a star": {star, j.union(j.then(star, a), one)},
			"a star twice":         {star, j.then(star, star)},
			"a star of a star":     {star, j.star(star)},
			"two predicates":       {j.then(j.union(p, none), q), j.then(q, j.union(p, none))},
			"neither":              {j.not(j.union(p, q)), j.then(j.not(p), j.not(q))},
			"a predicate or not":   {j.union(p, j.not(p)), one},
			"a predicate and not":  {j.then(p, j.not(p)), none},
		} {
			if both[0] != both[1] {
				t.Errorf("seed %d, %s: %d, %d", seed, what, both[0], both[1])
			}
			for _, h := range m.headers() {
				list, _ := Run(s, both[0], h)
				wantRun(t, s, both[1], h, list...)
			}
		}
		if t.Failed() {
			return
		}
	}
}

// What stands above a leaf is not asked twice, and no test is left that tells nothing.
func TestLeast(t *testing.T) {
	s := nodes.New()
	j := joiner{t, s}
	one, out := leaf(t, s, nil), leaf(t, s, sets(api.Port, 5))
	is5 := is(t, s, api.Port, 5)
	if id := j.then(is5, out); id != is5 {
		t.Error("where Port is 5, to set it to 5 is to do nothing", id)
	}
	if id := j.union(j.then(is5, one), j.then(j.not(is5), out)); id != out {
		t.Error("where Port is 5, to do nothing is to set it to 5", id)
	}
	split := j.union(j.then(is(t, s, api.To, 3), out), j.then(j.not(is(t, s, api.To, 3)), out))
	if split != out {
		t.Error("a test whose ways make the same", split)
	}
	first := ask(t, s, api.To, 1, out, ask(t, s, api.To, 2, one, out))
	if id := j.union(first, j.then(first, leaf(t, s))); id != first {
		t.Error("nothing was put to it", id)
	}
	if id := j.star(ask(t, s, api.To, 1, one, ask(t, s, api.To, 2, out, leaf(t, s)))); id != ask(t, s, api.To, 2, leaf(t, s, nil, sets(api.Port, 5)), one) {
		t.Error("To is 1, and the rest, are as one", id)
	}
}

// nodesOf are all nodes of a store.
func nodesOf(s *nodes.Store) []api.Node {
	var all []api.Node
	for id := range s.Len() {
		node, _ := s.Get(id)
		all = append(all, node)
	}
	return all
}

func sameNode(a, b api.Node) bool {
	return a.Field == b.Field && a.N == b.N && a.Hi == b.Hi && a.Lo == b.Lo && slices.EqualFunc(a.Leaf, b.Leaf, slices.Equal[[]api.Action])
}

// R2, R3: what was handed in stays as it was, and the same calls make the same nodes.
func TestStores(t *testing.T) {
	for seed := range 300 {
		var stores [2][]api.Node
		for i := range stores {
			m, s := newMaker(seed), nodes.New()
			for range 4 {
				m.any(t, s)
			}
			for range 8 {
				ahead := nodesOf(s)
				a, b := m.Intn(s.Len()), m.Intn(s.Len())
				switch m.Intn(4) {
				case 0:
					Union(s, a, b)
				case 1:
					Then(s, a, b)
				case 2:
					Not(s, a)
				case 3:
					Star(s, a)
				}
				if behind := nodesOf(s); len(behind) < len(ahead) || !slices.EqualFunc(ahead, behind[:len(ahead)], sameNode) {
					t.Fatal("seed", seed, "nodes were changed")
				}
			}
			stores[i] = nodesOf(s)
		}
		if !slices.EqualFunc(stores[0], stores[1], sameNode) {
			t.Error("seed", seed, "the same calls made other nodes")
		}
	}
}
