package nodes

import (
	"reflect"
	"sync"
	"testing"

	"tollbridge/api"
)

// roomyRows have room behind their ends, with marks in it; the rows lie in one
// list, one behind the other.
func roomyRows() (rows, whole [][]api.Action) {
	acts := settings{set(api.To, 5), set(api.Src, 9), set(api.Port, 2), set(api.Dst, 1), {Do: 77, Field: 77, N: 77}}
	whole = [][]api.Action{acts[2:4], acts[:2], acts[3:3], acts[:2], acts[4:]}
	return whole[:4], whole
}

func wantedRoomy() [][]api.Action {
	return rowsOf(nil, settings{set(api.Src, 9), set(api.To, 5)}, settings{set(api.Dst, 1), set(api.Port, 2)})
}

// spoil writes over every list, and into the room behind their ends.
func spoil(rows [][]api.Action) {
	rows = rows[:cap(rows)]
	for _, row := range rows {
		row = row[:cap(row)]
		for i := range row {
			row[i] = api.Action{Do: 66, Field: 66, N: 66}
		}
	}
	for i := range rows {
		rows[i] = settings{{Do: 55}}
	}
}

// R3: what is handed in is not changed, with the room behind its ends, whether
// it is new, known, refused, or finds no room.
func TestRowsAreLeftAlone(t *testing.T) {
	full := New()
	fillWithLeaves(t, full, api.MaxNodes)
	s := New()
	for what, store := range map[string]*Store{"a store": s, "a full store": full, "none": nil} {
		for range 2 {
			for count := range 6 { // the fifth row has what is no setting
				rows, whole := roomyRows()
				_, untouched := roomyRows()
				store.Leaf(rows[:count:cap(rows)])
				if !reflect.DeepEqual(whole, untouched) || len(rows) != 4 {
					t.Errorf("%s: %v, not %v", what, whole, untouched)
				}
				first := whole[0][:cap(whole[0])]
				if first[0] != set(api.Port, 2) || first[1] != set(api.Dst, 1) || first[2].Do != 77 {
					t.Errorf("%s: %v behind a row's end", what, first)
				}
			}
		}
	}
	if s.Len() == 0 {
		t.Error("no leaf was taken")
	}
}

// R3: what is handed in is not kept.
func TestRowsAreNotKept(t *testing.T) {
	s := New()
	rows, _ := roomyRows()
	leaf(t, s, 0, rows...)
	spoil(rows)
	if n, ok := s.Get(0); !ok || !sameNode(n, api.Node{Field: -1, Leaf: wantedRoomy()}) {
		t.Errorf("%v, %v", n, ok)
	}
	rows, _ = roomyRows()
	leaf(t, s, 0, rows...)
	leaf(t, s, 1, settings{{Do: 0, Field: api.To, N: 66}})
}

// R3, P20.5: what is written into an answer shows in no other.
func TestAnswersAreNew(t *testing.T) {
	s := New()
	rows, _ := roomyRows()
	leaf(t, s, 0, rows...)
	leaf(t, s, 1)
	test4(t, s, 2, api.From, 3, 0, 1)
	for range 3 {
		n, ok := s.Get(0)
		if !ok || !sameNode(n, api.Node{Field: -1, Leaf: wantedRoomy()}) {
			t.Fatalf("%v, %v", n, ok)
		}
		other, _ := s.Get(0)
		spoil(n.Leaf)
		if !sameRows(other.Leaf, wantedRoomy()) {
			t.Fatalf("two answers share: %v", other)
		}
		spoil(rows)
		rows, _ = roomyRows()
		leaf(t, s, 0, rows...)
	}
	if n, ok := s.Get(1); !ok || !sameNode(n, api.Node{Field: -1}) {
		t.Error(n, ok)
	}
}

// No two lists of an answer share: what grows behind one's end is not within
// another.
func TestRowsOfAnswerAreApart(t *testing.T) {
	s := New()
	rows, _ := roomyRows()
	leaf(t, s, 0, rows...)
	for at := range 3 {
		n, _ := s.Get(0)
		row := n.Leaf[at]
		for i := range row[:cap(row)] {
			row[:cap(row)][i] = api.Action{Do: 44}
		}
		for i, asked := range wantedRoomy() {
			if i != at && !reflect.DeepEqual(append(settings{}, n.Leaf[i]...), append(settings{}, asked...)) {
				t.Errorf("row %d, written beside row %d: %v", i, at, n.Leaf[i])
			}
		}
	}
}

// P20.5: what Get tells does not change while others come.
func TestAnswersStay(t *testing.T) {
	s := New()
	leaf(t, s, 0)
	leaf(t, s, 1, nil)
	leaf(t, s, 2, settings{set(api.Port, 1)}, settings{set(api.Port, 2)})
	test4(t, s, 3, api.To, 4, 2, 1)
	var told []api.Node
	for id := range 4 {
		n, _ := s.Get(id)
		told = append(told, n)
	}
	for i := range uint64(3000) {
		s.Leaf(rowsOf(settings{set(api.Port, i)}, settings{set(api.Port, 2)}))
		s.Test(api.To, i, int(i%5), int(i%3))
		s.Test(api.From, i, 3, int(i%3))
		for id, n := range told {
			if got, ok := s.Get(id); !ok || !sameNode(got, n) {
				t.Fatalf("node %d: %v, not %v", id, got, n)
			}
		}
	}
	if s.Len() < 6000 {
		t.Errorf("%d nodes are too few to tell", s.Len())
	}
}

// R2: stores that are worked at at the same time, and one that is asked by many.
func TestGoroutines(t *testing.T) {
	const workers = 8
	shared := New()
	fillWithLeaves(t, shared, 500)
	test4(t, shared, 500, api.To, 1, 0, 1)
	var group sync.WaitGroup
	faults := make([]string, workers)
	for w := range workers {
		group.Go(func() {
			s := New()
			for i := range 500 {
				id, e := s.Leaf(rowsOf(settings{set(api.Src, uint64(i*(w+1)))}))
				n, ok := shared.Get(i)
				if id != i || e != api.OK || !ok || n.Leaf[0][0].N != uint64(i) || shared.Len() != 501 {
					faults[w] = "a leaf"
				}
				spoil(n.Leaf)
			}
			if id, e := s.Test(api.To, uint64(w), 3, 4); id != 500 || e != api.OK {
				faults[w] = "a test"
			}
		})
	}
	group.Wait()
	for w, fault := range faults {
		if fault != "" {
			t.Errorf("worker %d: %s", w, fault)
		}
	}
}
