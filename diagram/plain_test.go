package diagram

import (
	"math/rand"
	"slices"
	"testing"

	"tollbridge/api"
	"tollbridge/nodes"
)

// maker makes diagrams by chance, of a few fields and numbers, and mostly not in
// their least form.
type maker struct {
	*rand.Rand
	fields []int
	top    uint64 // numbers are from 1 to this one
}

func newMaker(seed int) maker {
	fields := [][]int{{0, 5, 10}, {2, 3}, {9}, {1, 4, 7, 8}, {6, 9}}[seed%5]
	return maker{rand.New(rand.NewSource(int64(seed))), fields, 1 + uint64(seed/5%3)}
}

// leaf has rows of any settings, or as a predicate's has them.
func (m maker) leaf(t *testing.T, s *nodes.Store, pred bool) int {
	t.Helper()
	if pred {
		return leaf(t, s, make([][]api.Action, m.Intn(2))...)
	}
	var rows [][]api.Action
	for range []int{0, 1, 1, 1, 2, 3}[m.Intn(6)] {
		var row []api.Action
		for _, field := range m.fields {
			if m.Intn(3) == 0 {
				row = append(row, api.Action{Field: int8(field), N: m.number()})
			}
		}
		rows = append(rows, row)
	}
	return leaf(t, s, rows...)
}

func (m maker) number() uint64 {
	return 1 + m.Uint64()%m.top
}

// diagram has tests from one on alone: of its field's place, and a number.
func (m maker) diagram(t *testing.T, s *nodes.Store, place int, n uint64, pred bool) int {
	t.Helper()
	for place < len(m.fields) && (n > m.top || m.Intn(3) == 0) {
		place, n = place+1, 1
	}
	if place == len(m.fields) {
		return m.leaf(t, s, pred)
	}
	n += m.Uint64() % (m.top - n + 1)
	return ask(t, s, m.fields[place], n, m.diagram(t, s, place+1, 1, pred), m.diagram(t, s, place, n+1, pred))
}

func (m maker) any(t *testing.T, s *nodes.Store) int {
	t.Helper()
	return m.diagram(t, s, 0, 1, false)
}

// headers are one for each that a maker's diagrams can tell from others: each
// field has each number, and one that no diagram names.
func (m maker) headers() []api.Header {
	all := []api.Header{{}}
	for _, field := range m.fields {
		var more []api.Header
		for _, h := range all {
			for n := uint64(1); n <= m.top+1; n++ {
				h[field] = n
				more = append(more, h)
			}
		}
		all = more
	}
	return all
}

// plainRun goes by the words of the chapter.
func plainRun(s *nodes.Store, id int, h api.Header) []api.Header {
	node, _ := s.Get(id)
	switch {
	case node.Field >= 0 && h[node.Field] == node.N:
		return plainRun(s, node.Hi, h)
	case node.Field >= 0:
		return plainRun(s, node.Lo, h)
	}
	var all []api.Header
	for _, row := range node.Leaf {
		made := h
		for _, a := range row {
			made[a.Field] = a.N
		}
		all = append(all, made)
	}
	return plainUnion(all)
}

// plainUnion is a set, in order.
func plainUnion(lists ...[]api.Header) []api.Header {
	seen := map[api.Header]int{}
	var all []api.Header
	for _, list := range lists {
		for _, h := range list {
			if seen[h]++; seen[h] == 1 {
				all = append(all, h)
			}
		}
	}
	slices.SortFunc(all, func(a, b api.Header) int {
		for field := range a {
			if a[field] != b[field] {
				if a[field] < b[field] {
					return -1
				}
				return 1
			}
		}
		return 0
	})
	return all
}

func plainThen(s *nodes.Store, b int, list []api.Header) []api.Header {
	var lists [][]api.Header
	for _, h := range list {
		lists = append(lists, plainRun(s, b, h))
	}
	return plainUnion(lists...)
}

// plainStar tells how many rounds it takes, too.
func plainStar(s *nodes.Store, a int, h api.Header) ([]api.Header, int) {
	all := []api.Header{h}
	for round := 1; ; round++ {
		more := plainUnion(all, plainThen(s, a, all))
		if len(more) == len(all) {
			return all, round
		}
		all = more
	}
}

// P21.1, P21.2, P21.4, P21.5, P21.6: diagrams by chance make what the words say of
// what their parts make, of every header; and a star takes just as many rounds.
func TestPlain(t *testing.T) {
	var some, rounds [3]int
	for seed := range 1500 {
		m, s := newMaker(seed), nodes.New()
		a, b := m.any(t, s), m.any(t, s)
		union, then, star := made(t)(Union(s, a, b)), made(t)(Then(s, a, b)), made(t)(Star(s, a))
		most := 0
		for _, h := range m.headers() {
			of := plainRun(s, a, h)
			wantRun(t, s, a, h, of...)
			wantRun(t, s, union, h, plainUnion(of, plainRun(s, b, h))...)
			behind := plainThen(s, b, of)
			wantRun(t, s, then, h, behind...)
			all, took := plainStar(s, a, h)
			wantRun(t, s, star, h, all...)
			some[min(len(behind), 2)]++
			most = max(most, took)
		}
		wantRounds(t, s, a, most)
		rounds[min(most, 3)-1]++
		if t.Failed() {
			t.Fatal("seed", seed)
		}
	}
	if slices.Min(some[:]) < 3000 || slices.Min(rounds[:]) < 100 {
		t.Error("too few to tell", some, rounds)
	}
}

// wantRounds is just as many rounds as a star needs.
func wantRounds(t *testing.T, s *nodes.Store, a, want int) {
	t.Helper()
	enough := func(rounds int) (ok bool) {
		defer func() { ok = recover() == nil }()
		d := newDraft(true)
		d.star(d.take(s, a), rounds)
		return
	}
	if !enough(want) || enough(want-1) {
		t.Errorf("a star does not take %d rounds", want)
	}
}

// P21.3: predicates by chance.
func TestPlainNot(t *testing.T) {
	count := 0
	for seed := range 1500 {
		m, s := newMaker(seed), nodes.New()
		pred := m.diagram(t, s, 0, 1, true)
		not := made(t)(Not(s, pred))
		for _, h := range m.headers() {
			if len(plainRun(s, pred, h)) == 0 {
				wantRun(t, s, not, h, h)
				count++
			} else {
				wantRun(t, s, not, h)
			}
		}
		other := m.any(t, s)
		if _, e := Not(s, other); (e == api.OK) != plainPredicate(s, other) || e != api.OK && e != api.ErrPolicy {
			t.Error("seed", seed, e)
		}
	}
	if count < 5000 {
		t.Error("too few to tell", count)
	}
}

func plainPredicate(s *nodes.Store, id int) bool {
	node, _ := s.Get(id)
	if node.Field >= 0 {
		return plainPredicate(s, node.Hi) && plainPredicate(s, node.Lo)
	}
	return len(node.Leaf) == 0 || len(node.Leaf) == 1 && len(node.Leaf[0]) == 0
}
