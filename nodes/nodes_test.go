package nodes

import (
	"math"
	"testing"

	"tollbridge/api"
)

func set(field int8, n uint64) api.Action {
	return api.Action{Do: api.ActSet, Field: field, N: n}
}

type settings = []api.Action

// rowsOf is a leaf's rows.
func rowsOf(rows ...settings) [][]api.Action { return rows }

// want asks that a call answered so; beside an error the number must be 0.
func want(t *testing.T, what string, id int, e api.Errno, wantID int, wantE api.Errno) {
	t.Helper()
	if wantE != api.OK {
		wantID = 0
	}
	if id != wantID || e != wantE {
		t.Errorf("%s: %d, %v; want %d, %v", what, id, e, wantID, wantE)
	}
}

func leaf(t *testing.T, s *Store, wantID int, rows ...settings) {
	t.Helper()
	id, e := s.Leaf(rows)
	want(t, "Leaf", id, e, wantID, api.OK)
}

func test4(t *testing.T, s *Store, wantID int, field int8, n uint64, hi, lo int) {
	t.Helper()
	id, e := s.Test(field, n, hi, lo)
	want(t, "Test", id, e, wantID, api.OK)
}

// refuse asks that the test is refused, and leaves the store as it was.
func refuse(t *testing.T, s *Store, wantE api.Errno, field int8, n uint64, hi, lo int) {
	t.Helper()
	ahead := s.Len()
	id, e := s.Test(field, n, hi, lo)
	want(t, "Test", id, e, 0, wantE)
	if s.Len() != ahead {
		t.Errorf("%d nodes, %d ahead of the refusal", s.Len(), ahead)
	}
}

func refuseLeaf(t *testing.T, s *Store, wantE api.Errno, rows ...settings) {
	t.Helper()
	ahead := s.Len()
	id, e := s.Leaf(rows)
	want(t, "Leaf", id, e, 0, wantE)
	if s.Len() != ahead {
		t.Errorf("%d nodes, %d ahead of the refusal", s.Len(), ahead)
	}
}

// The chapter's examples.
func TestExamples(t *testing.T) {
	s := New()
	leaf(t, s, 0)
	leaf(t, s, 1, nil)
	leaf(t, s, 0)
	leaf(t, s, 2, settings{set(api.To, 5), set(api.Src, 1)}, settings{set(api.Src, 1), set(api.To, 5)})
	if n, ok := s.Get(2); !ok || !sameNode(n, api.Node{Field: -1, Leaf: rowsOf(settings{set(api.Src, 1), set(api.To, 5)})}) {
		t.Error(n, ok)
	}
	test4(t, s, 3, api.To, 9, 1, 0)
	test4(t, s, 4, api.To, 7, 2, 3)
	refuse(t, s, api.ErrArg, api.To, 11, 1, 3)
	test4(t, s, 3, api.From, 1, 3, 3)
	refuse(t, s, api.ErrArg, api.To, 12, 3, 0)
	refuseLeaf(t, s, api.ErrArg, settings{set(api.To, 5), set(api.To, 6)})
	refuse(t, s, api.ErrArg, api.To, 1<<32, 1, 0)
	refuse(t, s, api.ErrArg, api.To, 1, 9, 0)
}

// P20.1
func TestNew(t *testing.T) {
	s := New()
	if s == nil {
		t.Fatal("New tells nil")
	}
	if s.Len() != 0 {
		t.Errorf("%d nodes in a new store", s.Len())
	}
	if n, ok := s.Get(0); ok || !sameNode(n, api.Node{}) {
		t.Errorf("node 0 of a new store: %v, %v", n, ok)
	}
}

// P20.1: leaves and tests are numbered in one row, as they come; those that
// came again or were refused take no number.
func TestNumbers(t *testing.T) {
	s := New()
	leaf(t, s, 0, settings{set(api.Port, 1)})
	leaf(t, s, 1)
	test4(t, s, 2, api.Port, 1, 0, 1)
	leaf(t, s, 1)
	refuseLeaf(t, s, api.ErrArg, settings{set(api.Fields, 1)})
	leaf(t, s, 3, settings{set(api.Port, 2)})
	test4(t, s, 2, api.Port, 1, 0, 1)
	refuse(t, s, api.ErrArg, api.Port, 1, 0, 4)
	test4(t, s, 3, api.Dst, 1, 3, 3)
	test4(t, s, 4, api.Dst, 1, 2, 3)
	test4(t, s, 5, api.Src, 1, 4, 2)
	leaf(t, s, 6, nil)
	if s.Len() != 7 {
		t.Errorf("%d nodes, not 7", s.Len())
	}
}

// Stores know nothing of one another.
func TestTwoStores(t *testing.T) {
	a, b := New(), New()
	leaf(t, a, 0)
	leaf(t, a, 1, nil)
	test4(t, a, 2, api.To, 1, 1, 0)
	leaf(t, b, 0, nil)
	refuse(t, b, api.ErrArg, api.To, 1, 1, 0)
	leaf(t, b, 1)
	test4(t, b, 2, api.To, 1, 1, 0)
	if n, _ := a.Get(0); len(n.Leaf) != 0 {
		t.Error(n)
	}
	if n, _ := b.Get(0); len(n.Leaf) != 1 {
		t.Error(n)
	}
}

// R1, R5: of a nil store; what is handed in may be wrong too.
func TestNilStore(t *testing.T) {
	var s *Store
	for _, rows := range [][][]api.Action{nil, {nil}, {{set(api.Fields, 0)}}, {{set(0, 1), set(0, 1)}}} {
		id, e := s.Leaf(rows)
		want(t, "Leaf", id, e, 0, api.ErrNil)
	}
	for _, field := range []int8{-1, 0, api.Switch, api.Fields} {
		for _, id := range []int{-1, 0, 1} {
			got, e := s.Test(field, math.MaxUint64, id, id)
			want(t, "Test", got, e, 0, api.ErrNil)
			got, e = s.Test(field, 0, id, 0)
			want(t, "Test", got, e, 0, api.ErrNil)
		}
	}
	for _, id := range []int{math.MinInt, -1, 0, 1, math.MaxInt} {
		if n, ok := s.Get(id); ok || !sameNode(n, api.Node{}) {
			t.Errorf("Get(%d): %v, %v", id, n, ok)
		}
	}
	if s.Len() != 0 {
		t.Errorf("%d nodes in none", s.Len())
	}
}

// P20.2, P20.3: each field, and those beside them; each field's N up to its
// width, and one past it.
func TestWidths(t *testing.T) {
	bits := map[int8]int{api.Src: 48, api.Dst: 48, api.Kind: 16, api.Vlan: 12, api.From: 32, api.To: 32,
		api.Proto: 8, api.SPort: 16, api.DPort: 16, api.Port: 16, api.Switch: 16}
	s := New()
	leaf(t, s, 0)
	leaf(t, s, 1, nil)
	for i := range 256 {
		field := int8(i - 128)
		width, some := bits[field]
		for _, n := range []uint64{0, 1, 1<<width - 1, 1 << width, 1<<width + 1, 1 << 48, 1 << 63, math.MaxUint64} {
			fine := some && (n == 0 || n == 1 || n == 1<<width-1)
			if !fine {
				refuse(t, s, api.ErrArg, field, n, 1, 0)
				refuseLeaf(t, s, api.ErrArg, settings{set(field, n)})
				refuseLeaf(t, s, api.ErrArg, nil, settings{set(api.Src, 1), set(field, n)})
				continue
			}
			id := s.Len()
			test4(t, s, id, field, n, 1, 0)
			leaf(t, s, id+1, settings{set(field, n)})
			if got, ok := s.Get(id); !ok || !sameNode(got, api.Node{Field: field, N: n, Hi: 1, Lo: 0}) {
				t.Errorf("a test of %d, %d: %v, %v", field, n, got, ok)
			}
			if got, ok := s.Get(id + 1); !ok || !sameNode(got, api.Node{Field: -1, Leaf: rowsOf(settings{set(field, n)})}) {
				t.Errorf("a leaf of %d, %d: %v, %v", field, n, got, ok)
			}
		}
	}
	if s.Len() != 2+2*3*api.Fields {
		t.Errorf("%d nodes", s.Len())
	}
}

// P20.3: hi and lo must be nodes that are there.
func TestTestOfNoNodes(t *testing.T) {
	s := New()
	for _, id := range []int{math.MinInt, -1, 0, 1, math.MaxInt} {
		refuse(t, s, api.ErrArg, api.To, 1, id, id)
	}
	leaf(t, s, 0)
	leaf(t, s, 1, nil)
	for _, id := range []int{math.MinInt, -2, -1, 2, 3, 1 << 16, 1 << 32, 1<<32 + 1, math.MaxInt} {
		refuse(t, s, api.ErrArg, api.To, 1, id, 0)
		refuse(t, s, api.ErrArg, api.To, 1, 0, id)
		refuse(t, s, api.ErrArg, api.To, 1, id, id)
	}
	test4(t, s, 2, api.To, 1, 1, 0)
	test4(t, s, 3, api.From, 1, 2, 0)
	refuse(t, s, api.ErrArg, api.Src, 1, 4, 0)
	refuse(t, s, api.ErrArg, api.Src, 1, 0, 4)
}

// P20.3, P20.6: which tests may stand over which.
func TestOrder(t *testing.T) {
	build := func() (*Store, int) {
		s := New()
		leaf(t, s, 0)
		leaf(t, s, 1, nil)
		test4(t, s, 2, api.To, 9, 1, 0)
		return s, 2
	}
	rows := []struct {
		what   string
		field  int8
		n      uint64
		hi, lo api.Errno // as the test To = 9 stands at Hi, at Lo
		both   api.Errno
	}{
		{what: "a lesser field, a lesser N", field: api.From, n: 8},
		{what: "a lesser field, the same N", field: api.From, n: 9},
		{what: "a lesser field, a greater N", field: api.From, n: 10},
		{what: "the least field", field: api.Src, n: 1 << 40},
		{what: "the same field, a lesser N", field: api.To, n: 8, hi: api.ErrArg, both: api.ErrArg},
		{what: "the same field, N 0", field: api.To, n: 0, hi: api.ErrArg, both: api.ErrArg},
		{what: "the same test", field: api.To, n: 9, hi: api.ErrArg, lo: api.ErrArg, both: api.ErrArg},
		{what: "the same field, a greater N", field: api.To, n: 10, hi: api.ErrArg, lo: api.ErrArg, both: api.ErrArg},
		{what: "a greater field, a lesser N", field: api.Proto, n: 8, hi: api.ErrArg, lo: api.ErrArg, both: api.ErrArg},
		{what: "a greater field, the same N", field: api.Proto, n: 9, hi: api.ErrArg, lo: api.ErrArg, both: api.ErrArg},
		{what: "the greatest field", field: api.Switch, n: 10, hi: api.ErrArg, lo: api.ErrArg, both: api.ErrArg},
	}
	for _, r := range rows {
		s, at := build()
		id, e := s.Test(r.field, r.n, at, 0)
		want(t, r.what+", at Hi", id, e, 3, r.hi)
		s, at = build()
		id, e = s.Test(r.field, r.n, 1, at)
		want(t, r.what+", at Lo", id, e, 3, r.lo)
		s, at = build()
		id, e = s.Test(r.field, r.n, at, at)
		want(t, r.what+", at both", id, e, at, r.both)
		if s.Len() != 3 {
			t.Errorf("%s, at both: %d nodes", r.what, s.Len())
		}
	}
}

// P20.3: both must be ordered: one that is does not make up for the other.
func TestOrderOfBoth(t *testing.T) {
	s := New()
	leaf(t, s, 0)
	leaf(t, s, 1, nil)
	test4(t, s, 2, api.To, 9, 1, 0)
	test4(t, s, 3, api.Proto, 1, 1, 0)
	test4(t, s, 4, api.From, 1, 1, 0)
	test4(t, s, 5, api.To, 8, 3, 2)
	refuse(t, s, api.ErrArg, api.To, 8, 2, 3)
	refuse(t, s, api.ErrArg, api.To, 8, 3, 4)
	refuse(t, s, api.ErrArg, api.To, 8, 4, 3)
	refuse(t, s, api.ErrArg, api.To, 8, 4, 4)
	refuse(t, s, api.ErrArg, api.To, 10, 3, 2)
}

// P20.3: a test whose Hi and Lo are one is that node, of leaves too, when it is
// ordered.
func TestHiIsLo(t *testing.T) {
	s := New()
	leaf(t, s, 0)
	leaf(t, s, 1, nil)
	test4(t, s, 2, api.Port, 4, 1, 0)
	for field := range int8(api.Fields) {
		test4(t, s, 0, field, 1, 0, 0)
		test4(t, s, 1, field, 0, 1, 1)
		if field < api.Port {
			test4(t, s, 2, field, 9, 2, 2)
		} else {
			refuse(t, s, api.ErrArg, field, 3, 2, 2)
		}
	}
	refuse(t, s, api.ErrArg, api.Vlan, 4096, 0, 0)
	refuse(t, s, api.ErrArg, api.Fields, 0, 0, 0)
	refuse(t, s, api.ErrArg, -1, 0, 0, 0)
	if s.Len() != 3 {
		t.Errorf("%d nodes, not 3", s.Len())
	}
}

// P20.3, P20.5: tests that part in one thing are two nodes.
func TestUnlikeTests(t *testing.T) {
	s := New()
	leaf(t, s, 0)
	leaf(t, s, 1, nil)
	leaf(t, s, 2, settings{set(api.Port, 1)})
	for range 2 {
		test4(t, s, 3, api.To, 1, 1, 0)
		test4(t, s, 4, api.To, 1, 0, 1)
		test4(t, s, 5, api.To, 1, 2, 0)
		test4(t, s, 6, api.To, 1, 1, 2)
		test4(t, s, 7, api.To, 2, 1, 0)
		test4(t, s, 8, api.From, 1, 1, 0)
		test4(t, s, 9, api.To, 0, 1, 0)
		test4(t, s, 10, api.To, 1<<32-1, 1, 0)
	}
	if s.Len() != 11 {
		t.Errorf("%d nodes, not 11", s.Len())
	}
}

// P20.4
func TestGet(t *testing.T) {
	s := New()
	leaf(t, s, 0)
	leaf(t, s, 1, settings{set(api.To, 7), set(api.Dst, 2)}, nil)
	test4(t, s, 2, api.Proto, 6, 0, 1)
	test4(t, s, 3, api.Src, 8, 2, 1)
	nodes := []api.Node{
		{Field: -1},
		{Field: -1, Leaf: rowsOf(nil, settings{set(api.Dst, 2), set(api.To, 7)})},
		{Field: api.Proto, N: 6, Hi: 0, Lo: 1},
		{Field: api.Src, N: 8, Hi: 2, Lo: 1},
	}
	for id, node := range nodes {
		if got, ok := s.Get(id); !ok || !sameNode(got, node) {
			t.Errorf("node %d: %v, %v; want %v", id, got, ok, node)
		}
	}
	for _, id := range []int{math.MinInt, -1 << 32, -5, -1, 4, 5, 1 << 16, 1 << 32, math.MaxInt} {
		if got, ok := s.Get(id); ok || !sameNode(got, api.Node{}) {
			t.Errorf("node %d: %v, %v; want none", id, got, ok)
		}
	}
	if s.Len() != 4 {
		t.Errorf("%d nodes, not 4", s.Len())
	}
}
