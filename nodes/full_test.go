package nodes

import (
	"testing"

	"tollbridge/api"
)

// fillWithLeaves has leaves that set Src to their own number.
func fillWithLeaves(t *testing.T, s *Store, count int) {
	t.Helper()
	for id := s.Len(); id < count; id++ {
		leaf(t, s, id, settings{set(api.Src, uint64(id))})
	}
}

// P20.2, P20.3: the last node that has room, and one past it.
func TestFullOfLeaves(t *testing.T) {
	s := New()
	fillWithLeaves(t, s, api.MaxNodes-1)
	leaf(t, s, api.MaxNodes-1, nil)
	askFull(t, s)
	for _, id := range []int{0, 1, 4711, api.MaxNodes - 2} {
		leaf(t, s, id, settings{set(api.Src, uint64(id))})
	}
	leaf(t, s, api.MaxNodes-1, nil)
}

func TestFullByTest(t *testing.T) {
	s := New()
	fillWithLeaves(t, s, api.MaxNodes-1)
	test4(t, s, api.MaxNodes-1, api.To, 5, 1, 0)
	askFull(t, s)
	test4(t, s, api.MaxNodes-1, api.To, 5, 1, 0)
	test4(t, s, api.MaxNodes-1, api.From, 5, api.MaxNodes-1, api.MaxNodes-1)
	refuse(t, s, api.ErrTooBig, api.From, 5, api.MaxNodes-1, 0)
	refuse(t, s, api.ErrArg, api.To, 6, 0, api.MaxNodes-1)
}

// askFull asks a store that is full, with a leaf at 0 and at 1: a new node
// finds no room, what is wrong is told ahead of that, and what needs no room
// is answered.
func askFull(t *testing.T, s *Store) {
	t.Helper()
	if s.Len() != api.MaxNodes {
		t.Fatalf("%d nodes, not %d", s.Len(), api.MaxNodes)
	}
	refuseLeaf(t, s, api.ErrTooBig)
	refuseLeaf(t, s, api.ErrTooBig, settings{set(api.Dst, 1)})
	refuseLeaf(t, s, api.ErrTooBig, settings{set(api.Dst, 1)})
	refuse(t, s, api.ErrTooBig, api.To, 4, 1, 0)
	refuse(t, s, api.ErrTooBig, api.To, 4, 1, 0)
	refuse(t, s, api.ErrTooBig, api.To, 5, 0, 1)
	refuseLeaf(t, s, api.ErrArg, settings{set(api.Vlan, 4096)})
	refuseLeaf(t, s, api.ErrArg, settings{set(api.Dst, 1), set(api.Dst, 2)})
	refuse(t, s, api.ErrArg, api.To, 1<<32, 1, 0)
	refuse(t, s, api.ErrArg, api.To, 4, api.MaxNodes, 0)
	refuse(t, s, api.ErrArg, api.To, 4, 0, api.MaxNodes)
	test4(t, s, 1, api.To, 4, 1, 1)
	leaf(t, s, 1, settings{set(api.Src, 1)})
	if n, ok := s.Get(api.MaxNodes); ok || !sameNode(n, api.Node{}) {
		t.Error(n, ok)
	}
}

// P20.5, P20.6: the longest way there can be: each test is Lo of the next one,
// which must be lesser.
func TestLongestWay(t *testing.T) {
	s := New()
	leaf(t, s, 0)
	leaf(t, s, 1, nil)
	test4(t, s, 2, api.Dst, api.MaxNodes-2, 1, 0)
	for id := 3; id < api.MaxNodes; id++ {
		n := uint64(api.MaxNodes - id)
		refuse(t, s, api.ErrArg, api.Dst, n, id-1, 0)
		test4(t, s, id, api.Dst, n, 1, id-1)
		refuse(t, s, api.ErrArg, api.Dst, n+1, 1, id)
	}
	askWays(t, s)
	if n, ok := s.Get(api.MaxNodes - 1); !ok || !sameNode(n, api.Node{Field: api.Dst, N: 1, Hi: 1, Lo: api.MaxNodes - 2}) {
		t.Error(n, ok)
	}
	test4(t, s, 7, api.Dst, api.MaxNodes-7, 1, 6)
	refuse(t, s, api.ErrTooBig, api.Dst, 0, 1, api.MaxNodes-1)
	refuse(t, s, api.ErrTooBig, api.Src, 0, api.MaxNodes-1, 1)
}
