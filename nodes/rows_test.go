package nodes

import (
	"math/rand"
	"slices"
	"testing"

	"tollbridge/api"
)

// leafRowsOf are the rows that the store tells of a leaf.
func leafRowsOf(t *testing.T, s *Store, rows [][]api.Action) [][]api.Action {
	t.Helper()
	id, e := s.Leaf(rows)
	if e != api.OK {
		t.Fatalf("Leaf(%v): %v", rows, e)
	}
	n, ok := s.Get(id)
	if !ok || n.Field != -1 || n.N != 0 || n.Hi != 0 || n.Lo != 0 {
		t.Fatalf("Leaf(%v): %v, %v", rows, n, ok)
	}
	return n.Leaf
}

// P20.2: a row's settings stand by rising fields, whatever their Ns.
func TestSettingsInOrder(t *testing.T) {
	var row settings
	for field := range int8(api.Fields) {
		row = append(row, set(field, uint64(api.Fields-field)))
	}
	s := New()
	chance := rand.New(rand.NewSource(1))
	for range 200 {
		mixed := slices.Clone(row)
		chance.Shuffle(len(mixed), func(i, j int) { mixed[i], mixed[j] = mixed[j], mixed[i] })
		if got := leafRowsOf(t, s, rowsOf(mixed)); !sameRows(got, rowsOf(row)) {
			t.Fatalf("%v: %v", mixed, got)
		}
	}
	if s.Len() != 1 {
		t.Errorf("%d leaves of one row", s.Len())
	}
}

// P20.2: rows by rising order: one that ends is ahead of what goes on; the
// first setting that parts them says the rest: its Field, then its N.
func TestRowsInOrder(t *testing.T) {
	rising := rowsOf(
		nil,
		settings{set(api.Src, 0)},
		settings{set(api.Src, 0), set(api.Dst, 0)},
		settings{set(api.Src, 0), set(api.Dst, 0), set(api.Kind, 0)},
		settings{set(api.Src, 0), set(api.Dst, 0), set(api.Switch, 9)},
		settings{set(api.Src, 0), set(api.Dst, 1)},
		settings{set(api.Src, 0), set(api.Switch, 0)},
		settings{set(api.Src, 1)},
		settings{set(api.Src, 1), set(api.Dst, 0)},
		settings{set(api.Src, 2)},
		settings{set(api.Src, 10)},
		settings{set(api.Src, 1<<48-1)},
		settings{set(api.Dst, 0)},
		settings{set(api.Dst, 3), set(api.Vlan, 4)},
		settings{set(api.Dst, 4), set(api.Vlan, 3)},
		settings{set(api.Vlan, 7), set(api.To, 1<<32-1)},
		settings{set(api.Vlan, 7), set(api.Proto, 0)},
		settings{set(api.Port, 1)},
		settings{set(api.Port, 1), set(api.Switch, 1)},
		settings{set(api.Switch, 1<<16-1)},
	)
	for i, one := range rising {
		for j, two := range rising {
			pair := rowsOf(one, two)
			if j < i {
				pair = rowsOf(two, one)
			}
			if i == j {
				pair = rowsOf(one)
			}
			if got := leafRowsOf(t, New(), rowsOf(one, two)); !sameRows(got, pair) {
				t.Errorf("%v, %v: %v", one, two, got)
			}
		}
	}
	s := New()
	chance := rand.New(rand.NewSource(2))
	for range 300 {
		mixed := slices.Concat(rising, rising[:chance.Intn(len(rising))])
		chance.Shuffle(len(mixed), func(i, j int) { mixed[i], mixed[j] = mixed[j], mixed[i] })
		if got := leafRowsOf(t, s, mixed); !sameRows(got, rising) {
			t.Fatalf("%v: %v", mixed, got)
		}
	}
	if s.Len() != 1 {
		t.Errorf("%d leaves of one", s.Len())
	}
}

// P20.2: of rows that are alike one stays, in whatever order their settings
// stood, and wherever they stood.
func TestAlikeRows(t *testing.T) {
	a := settings{set(api.To, 5), set(api.Src, 1)}
	b := settings{set(api.Src, 1), set(api.To, 5)}
	c := settings{set(api.Port, 2)}
	s := New()
	leaf(t, s, 0, a)
	leaf(t, s, 0, b)
	leaf(t, s, 0, a, b, a, b)
	leaf(t, s, 1, a, c)
	leaf(t, s, 1, c, b)
	leaf(t, s, 1, b, c, a, c)
	leaf(t, s, 2, c)
	leaf(t, s, 3, nil, c)
	leaf(t, s, 3, c, settings{}, nil, c)
	leaf(t, s, 4, nil)
	leaf(t, s, 4, nil, settings{}, nil)
	leaf(t, s, 5)
	if got := leafRowsOf(t, s, rowsOf(c, nil, a, b, c)); !sameRows(got, rowsOf(nil, b, c)) {
		t.Error(got)
	}
}

// P20.2: what can't be a setting, at each place of a row and of the rows.
func TestNoSettings(t *testing.T) {
	wrong := []api.Action{
		{Do: api.ActOut}, {Do: api.ActOut, Field: api.Port, N: 1}, {Do: api.ActPunt}, {Do: api.ActPunt, Field: 3},
		{Do: 3}, {Do: -1}, {Do: 127, Field: api.To, N: 1}, {Do: -128},
		set(-1, 0), set(api.Fields, 0), set(127, 0), set(-128, 1),
		set(api.Vlan, 4096), set(api.Proto, 256), set(api.To, 1<<32), set(api.Src, 1<<48), set(api.Switch, 1<<16),
	}
	fine := settings{set(api.Kind, 1), set(api.From, 2)}
	s := New()
	for _, a := range wrong {
		refuseLeaf(t, s, api.ErrArg, settings{a})
		refuseLeaf(t, s, api.ErrArg, settings{a, a})
		refuseLeaf(t, s, api.ErrArg, settings{a}, settings{a})
		for at := range 3 {
			refuseLeaf(t, s, api.ErrArg, slices.Insert(slices.Clone(fine), at, a))
			refuseLeaf(t, s, api.ErrArg, slices.Insert(rowsOf(nil, fine), at, settings{a})...)
		}
	}
	if s.Len() != 0 {
		t.Errorf("%d nodes", s.Len())
	}
}

// P20.2: a field twice in a row, with one N or with two, side by side or not;
// in two rows it may stand.
func TestFieldTwice(t *testing.T) {
	s := New()
	for field := range int8(api.Fields) {
		other := (field + 1) % api.Fields
		for n := range uint64(2) {
			twice := settings{set(field, 1), set(field, n)}
			refuseLeaf(t, s, api.ErrArg, twice)
			refuseLeaf(t, s, api.ErrArg, nil, twice)
			refuseLeaf(t, s, api.ErrArg, twice, settings{set(other, 1)})
			refuseLeaf(t, s, api.ErrArg, settings{set(field, n), set(other, 1), set(field, 1)})
			refuseLeaf(t, s, api.ErrArg, settings{set(other, 1), set(field, n), set(field, 1)})
		}
	}
	leaf(t, s, 0, settings{set(api.To, 1)}, settings{set(api.To, 2)})
	leaf(t, s, 1, settings{set(api.To, 1), set(api.From, 1)}, settings{set(api.To, 1)})
}

// Rows that look alike, written side by side, are nonetheless unlike leaves.
func TestUnlikeLeaves(t *testing.T) {
	numbers := []uint64{0, 1, 2, 10, 11, 12, 100, 112, 1 << 8, 1<<8 + 1, 1 << 16, 1 << 32}
	all := rowsOf(nil)
	for _, n := range numbers {
		all = append(all, settings{set(api.Src, n)}, settings{set(api.Dst, n)}, settings{set(api.Src, n), set(api.Dst, 1)},
			settings{set(api.Src, 1), set(api.Dst, n+2)})
	}
	all = inPlainOrder(all)
	s := New()
	leaf(t, s, 0)
	for i, one := range all {
		leaf(t, s, s.Len(), one)
		for j, two := range all[:i] {
			leaf(t, s, s.Len(), one, two)
			if i < 20 {
				for _, three := range all[:j] {
					leaf(t, s, s.Len(), one, two, three)
				}
			}
		}
	}
	askAlone(t, s)
	if s.Len() < 2000 {
		t.Errorf("%d leaves are too few to tell", s.Len())
	}
}

// R1: many rows, and a row of many settings, are looked at and done.
func TestLongLeaves(t *testing.T) {
	s := New()
	many := make([][]api.Action, 1<<17)
	for i := range many {
		many[i] = settings{set(api.To, uint64(i*77%101)), set(api.From, 1)}
	}
	if got := leafRowsOf(t, s, many); len(got) != 101 {
		t.Errorf("%d rows, not 101", len(got))
	}
	for i := range many {
		many[i] = settings{set(api.Dst, uint64(len(many)-i))}
	}
	got := leafRowsOf(t, s, many)
	if len(got) != len(many) || got[0][0].N != 1 || got[len(got)-1][0].N != uint64(len(many)) {
		t.Errorf("%d rows, not %d", len(got), len(many))
	}
	refuseLeaf(t, s, api.ErrArg, make(settings, 1<<20))
	if s.Len() != 2 {
		t.Errorf("%d nodes, not 2", s.Len())
	}
}
