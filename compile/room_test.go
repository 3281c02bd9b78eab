package compile

import (
	"testing"

	"tollbridge/api"
	"tollbridge/nodes"
)

// fill has leaves that nothing else has, till there is room for so many nodes.
func fill(t *testing.T, s *nodes.Store, room int) {
	t.Helper()
	for n := uint64(1); s.Len() < api.MaxNodes-room; n++ {
		if _, e := s.Leaf([][]api.Action{{{Field: api.Src, N: 1<<40 + n}}}); e != api.OK {
			t.Fatal(e)
		}
	}
}

// wantTooBig asks twice for what finds no room, and holds the store against what it was.
func wantTooBig(t *testing.T, s *nodes.Store, what string, term api.Term) {
	t.Helper()
	count := s.Len()
	for range 2 {
		if node, e := Of(s, term); node != 0 || e != api.ErrTooBig || s.Len() != count {
			t.Errorf("%s: %d, %v, %d nodes of %d", what, node, e, s.Len(), count)
		}
	}
}

// P22.1, R4: the last term that a store has room for, and one that needs a node more.
func TestRoom(t *testing.T) {
	three := star(union(step(api.Port, 1, 2), step(api.Port, 2, 3))) // 2 tests, 3 leaves
	for room := range 7 {
		s := nodes.New()
		fill(t, s, room)
		count := s.Len()
		if room < 5 {
			wantTooBig(t, s, "a term of five nodes", three)
			continue
		}
		node := compiled(t, s, three)
		if s.Len() != count+5 {
			t.Error(s.Len()-count, "nodes")
		}
		wantRun(t, s, node, api.Header{api.Port: 2}, api.Header{api.Port: 2}, api.Header{api.Port: 3})
		if again := compiled(t, s, three); again != node || s.Len() != count+5 {
			t.Error("other nodes were made", again, node, s.Len())
		}
	}
}

// Some nodes are there ahead: those need no room.
func TestShared(t *testing.T) {
	part, whole := step(api.To, 5, 6), union(step(api.To, 4, 7), step(api.To, 5, 6))
	for room := range 4 {
		s := nodes.New()
		node := compiled(t, s, part)
		fill(t, s, room)
		if again := compiled(t, s, part); again != node {
			t.Error("another node", again, node)
		}
		if room < 2 {
			wantTooBig(t, s, "a test and a leaf more", whole)
		} else {
			wantRun(t, s, compiled(t, s, whole), api.Header{api.To: 4}, api.Header{api.To: 7})
		}
		wantRun(t, s, node, api.Header{api.To: 5}, api.Header{api.To: 6})
		wantRun(t, s, node, api.Header{api.To: 4})
	}
}

// cross does one thing by each of n numbers of Src, and one by each of n of Dst: so it
// has a leaf for each two of these.
func cross(n uint64) api.Term {
	t := of(api.Union)
	for i := range n {
		t.Kids = append(t.Kids, step(api.Src, i+1, i+1000), step(api.Dst, i+1, i+1000))
	}
	return t
}

// What stands there on the way needs no room of the store's.
func TestOnTheWay(t *testing.T) {
	big := cross(100)
	s := nodes.New()
	fill(t, s, 3)
	wantTooBig(t, s, "a big one", big)
	one := union(then(big, drop()), then(big, filter(not(of(api.Yes)))), step(api.Port, 1, 2))
	node := compiled(t, s, one)
	if s.Len() != api.MaxNodes {
		t.Error("room for", api.MaxNodes-s.Len())
	}
	wantRun(t, s, node, api.Header{api.Port: 1, api.Src: 9}, api.Header{api.Port: 2, api.Src: 9})
	wantTooBig(t, s, "a node more", step(api.Port, 1, 3))
	if again := compiled(t, s, one); again != node {
		t.Error("another node", again, node)
	}
	ways := then(big, set(api.From, 1), set(api.To, 1), set(api.SPort, 1), set(api.DPort, 1), set(api.Port, 1))
	s = nodes.New()
	node = compiled(t, s, ways)
	h := api.Header{api.From: 1, api.To: 1, api.SPort: 1, api.DPort: 1, api.Port: 1}
	a, b := h, h
	a[api.Src], a[api.Dst] = 1004, 7
	b[api.Src], b[api.Dst] = 5, 1006
	wantRun(t, s, node, api.Header{api.Src: 5, api.Dst: 7}, b, a)
	if s.Len() > 25000 {
		t.Error(s.Len(), "nodes")
	}
}

// P22.1, R4: what has more nodes than a store has, and stars of too many rounds.
func TestTooBig(t *testing.T) {
	s := nodes.New()
	compiled(t, s, step(api.Port, 1, 2))
	wantTooBig(t, s, "more than 2^16 nodes", cross(190))
	wantTooBig(t, s, "the same, with more behind it", then(cross(190), drop()))
	wantTooBig(t, s, "65 rounds", star(chain(api.Port, 64)))
	wantTooBig(t, s, "65 rounds of a kid", union(id(), then(set(api.Port, 1), star(chain(api.Port, 64)))))
	node := compiled(t, s, star(chain(api.Port, 63)))
	want := []api.Header{{api.Port: 62}, {api.Port: 63}, {api.Port: 64}}
	wantRun(t, s, node, api.Header{api.Port: 62}, want...)
}
