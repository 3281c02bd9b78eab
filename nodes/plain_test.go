package nodes

import (
	"math/rand"
	"slices"
	"testing"

	"tollbridge/api"
)

func sameRows(a, b [][]api.Action) bool {
	return slices.EqualFunc(a, b, func(a, b []api.Action) bool { return slices.Equal(a, b) })
}

func sameNode(a, b api.Node) bool {
	return a.Field == b.Field && a.N == b.N && a.Hi == b.Hi && a.Lo == b.Lo && sameRows(a.Leaf, b.Leaf)
}

// plain is a store as the chapter's words tell it: a list that is gone through.
type plain struct {
	nodes []api.Node
}

var plainWidths = []int{48, 48, 16, 12, 32, 32, 8, 16, 16, 16, 16}

func plainFits(field int8, n uint64) bool {
	return field >= 0 && int(field) < len(plainWidths) && n < 1<<plainWidths[field]
}

// plainRow is a row by rising fields.
func plainRow(row settings) (settings, bool) {
	var sorted settings
	for field := range int8(api.Fields) {
		for _, a := range row {
			if a.Do == api.ActSet && a.Field == field && plainFits(field, a.N) {
				sorted = append(sorted, a)
			}
		}
	}
	for i := 1; i < len(sorted); i++ {
		if sorted[i].Field == sorted[i-1].Field {
			return nil, false
		}
	}
	return sorted, len(sorted) == len(row)
}

// isAhead tells whether row a is ahead of row b.
func isAhead(a, b settings) bool {
	for i := range b {
		switch {
		case i == len(a):
			return true
		case a[i] == b[i]:
			continue
		case a[i].Field != b[i].Field:
			return a[i].Field < b[i].Field
		}
		return a[i].N < b[i].N
	}
	return false
}

// inPlainOrder takes the foremost row as often as there are some.
func inPlainOrder(rows [][]api.Action) [][]api.Action {
	var sorted [][]api.Action
	for left := slices.Clone(rows); len(left) > 0; {
		first := 0
		for i := range left {
			if isAhead(left[i], left[first]) {
				first = i
			}
		}
		if len(sorted) == 0 || !slices.Equal(sorted[len(sorted)-1], left[first]) {
			sorted = append(sorted, left[first])
		}
		left = slices.Delete(left, first, first+1)
	}
	return sorted
}

func (p *plain) one(node api.Node) int {
	for id, n := range p.nodes {
		if sameNode(n, node) {
			return id
		}
	}
	p.nodes = append(p.nodes, node)
	return len(p.nodes) - 1
}

func (p *plain) leaf(rows [][]api.Action) (int, api.Errno) {
	var all [][]api.Action
	for _, row := range rows {
		sorted, ok := plainRow(row)
		if !ok {
			return 0, api.ErrArg
		}
		all = append(all, sorted)
	}
	return p.one(api.Node{Field: -1, Leaf: inPlainOrder(all)}), api.OK
}

func (p *plain) test(field int8, n uint64, hi, lo int) (int, api.Errno) {
	if !plainFits(field, n) || hi < 0 || hi >= len(p.nodes) || lo < 0 || lo >= len(p.nodes) {
		return 0, api.ErrArg
	}
	h, l := p.nodes[hi], p.nodes[lo]
	hiFits := h.Field == -1 || field < h.Field
	loFits := l.Field == -1 || field < l.Field || field == l.Field && n < l.N
	if !hiFits || !loFits {
		return 0, api.ErrArg
	}
	if hi == lo {
		return hi, api.OK
	}
	return p.one(api.Node{Field: field, N: n, Hi: hi, Lo: lo}), api.OK
}

// someSetting is a setting of few fields and numbers, so that the same ones come
// again; at times it is none.
func someSetting(chance *rand.Rand) api.Action {
	field := int8(chance.Intn(4)) * 3
	a := set(field, uint64(chance.Intn(3)))
	switch chance.Intn(60) {
	case 0:
		a.N = 1<<plainWidths[field] - 1
	case 1:
		a.N = 1 << plainWidths[field]
	case 2:
		a.Field = int8(chance.Intn(256) - 128)
	case 3:
		a.Do = int8(chance.Intn(5) - 1)
	}
	return a
}

func someRows(chance *rand.Rand) [][]api.Action {
	rows := make([][]api.Action, chance.Intn(4))
	for i := range rows {
		for range chance.Intn(3) {
			rows[i] = append(rows[i], someSetting(chance))
		}
	}
	return rows
}

// tally counts how often the random calls met each kind of answer.
type tally struct {
	newLeaf, oldLeaf, noLeaf, newTest, oldTest, noTest, oneNode int
}

func (c *tally) count(isTest, oneNode, isNew bool, e api.Errno) {
	switch {
	case isTest && e != api.OK:
		c.noTest++
	case isTest && oneNode:
		c.oneNode++
	case isTest && isNew:
		c.newTest++
	case isTest:
		c.oldTest++
	case e != api.OK:
		c.noLeaf++
	case isNew:
		c.newLeaf++
	default:
		c.oldLeaf++
	}
}

// randomCalls does the same in a store and in the plain one.
func randomCalls(t *testing.T, chance *rand.Rand, calls int, c *tally) *Store {
	s, p := New(), &plain{}
	for range calls {
		ahead := len(p.nodes)
		if chance.Intn(3) == 0 {
			rows := someRows(chance)
			id, e := s.Leaf(rows)
			wantID, wantE := p.leaf(rows)
			c.count(false, false, len(p.nodes) > ahead, wantE)
			want(t, "Leaf", id, e, wantID, wantE)
		} else {
			a := someSetting(chance)
			hi, lo := chance.Intn(ahead+2), chance.Intn(ahead+2)
			if chance.Intn(20) == 0 {
				hi = lo
			}
			if chance.Intn(30) == 0 {
				lo = -1
			}
			if hi < ahead && p.nodes[hi].Field >= 0 && chance.Intn(5) == 0 {
				old := p.nodes[hi]
				a, hi, lo = set(old.Field, old.N), old.Hi, old.Lo
			}
			id, e := s.Test(a.Field, a.N, hi, lo)
			wantID, wantE := p.test(a.Field, a.N, hi, lo)
			c.count(true, hi == lo, len(p.nodes) > ahead, wantE)
			want(t, "Test", id, e, wantID, wantE)
		}
		if s.Len() != len(p.nodes) {
			t.Fatalf("%d nodes, not %d", s.Len(), len(p.nodes))
		}
	}
	for id, node := range p.nodes {
		if got, ok := s.Get(id); !ok || !sameNode(got, node) {
			t.Fatalf("node %d: %v, %v; want %v", id, got, ok, node)
		}
	}
	return s
}

// P20.1 to P20.6: random calls, held against the plain store.
func TestAgainstPlain(t *testing.T) {
	chance := rand.New(rand.NewSource(20))
	var c tally
	for range 150 {
		s := randomCalls(t, chance, 40+chance.Intn(400), &c)
		if t.Failed() {
			return
		}
		askAlone(t, s)
		askWays(t, s)
	}
	for what, n := range map[string]int{"new leaves": c.newLeaf, "old leaves": c.oldLeaf, "leaves refused": c.noLeaf,
		"new tests": c.newTest, "old tests": c.oldTest, "tests refused": c.noTest, "tests of one node": c.oneNode} {
		if n < 150 {
			t.Errorf("%s: %d are too few to tell", what, n)
		}
	}
}

// P20.5: no two nodes are alike.
func askAlone(t *testing.T, s *Store) {
	t.Helper()
	first := map[string]int{}
	for id := range s.Len() {
		n, _ := s.Get(id)
		key := plainText(n)
		if other, there := first[key]; there {
			t.Fatalf("nodes %d and %d are alike: %v", other, id, n)
		}
		first[key] = id
	}
}

// plainText has every number of a node in a byte each, behind the counts of
// rows and settings.
func plainText(n api.Node) string {
	var b []byte
	number := func(n uint64) {
		for range 8 {
			b = append(b, byte(n))
			n >>= 8
		}
	}
	for _, x := range []int{int(n.Field), n.Hi, n.Lo, len(n.Leaf)} {
		number(uint64(x))
	}
	number(n.N)
	for _, row := range n.Leaf {
		number(uint64(len(row)))
		for _, a := range row {
			number(uint64(a.Do))
			number(uint64(a.Field))
			number(a.N)
		}
	}
	return string(b)
}

// P20.5: Hi and Lo are below the node's own number. P20.6: on a way down fields
// and numbers rise, and a way has at most as many tests as there are unlike ones.
func askWays(t *testing.T, s *Store) {
	t.Helper()
	type asked struct {
		field int8
		n     uint64
	}
	unlike := map[asked]int{}
	longest := make([]int, s.Len())
	for id := range s.Len() {
		n, _ := s.Get(id)
		if n.Field == -1 {
			continue
		}
		unlike[asked{n.Field, n.N}]++
		if n.Hi < 0 || n.Lo < 0 || n.Hi >= id || n.Lo >= id || n.Hi == n.Lo || len(n.Leaf) != 0 {
			t.Fatalf("node %d: %v", id, n)
		}
		hi, _ := s.Get(n.Hi)
		lo, _ := s.Get(n.Lo)
		if hi.Field != -1 && hi.Field <= n.Field {
			t.Fatalf("node %d: %v, and Hi: %v", id, n, hi)
		}
		if lo.Field != -1 && (lo.Field < n.Field || lo.Field == n.Field && lo.N <= n.N) {
			t.Fatalf("node %d: %v, and Lo: %v", id, n, lo)
		}
		longest[id] = 1 + max(longest[n.Hi], longest[n.Lo])
	}
	for id, tests := range longest {
		if tests > len(unlike) {
			t.Fatalf("node %d: a way of %d tests, of %d unlike ones", id, tests, len(unlike))
		}
	}
}
