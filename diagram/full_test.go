package diagram

import (
	"testing"

	"tollbridge/api"
	"tollbridge/nodes"
)

// fill has leaves that nothing else has, till there is room for so many nodes.
func fill(t *testing.T, s *nodes.Store, room int) {
	t.Helper()
	for n := uint64(1); s.Len() < api.MaxNodes-room; n++ {
		leaf(t, s, sets(api.Src, 1<<40+n))
	}
}

// wantTooBig asks twice for what finds no room.
func wantTooBig(t *testing.T, s *nodes.Store, what string, join func() (int, api.Errno)) {
	t.Helper()
	count := s.Len()
	for range 2 {
		wantError(t, what, api.ErrTooBig)(join())
		if s.Len() != count {
			t.Errorf("%s: %d nodes, not %d", what, s.Len(), count)
		}
	}
}

// A store without room answers what needs none.
func TestFull(t *testing.T) {
	s := nodes.New()
	none, one, a, pred := leaf(t, s), leaf(t, s, nil), step(t, s, api.Port, 1, 2), is(t, s, api.Port, 1)
	not, star := made(t)(Not(s, pred)), made(t)(Star(s, a))
	fill(t, s, 0)
	last := api.MaxNodes - 1
	for _, x := range []int{none, one, a, pred, not, star, last} {
		wantSame(t, "Union(x, x)", x)(Union(s, x, x))
		wantSame(t, "Union(x, none)", x)(Union(s, x, none))
		wantSame(t, "Union(none, x)", x)(Union(s, none, x))
		wantSame(t, "Then(x, one)", x)(Then(s, x, one))
		wantSame(t, "Then(one, x)", x)(Then(s, one, x))
		wantSame(t, "Then(x, none)", none)(Then(s, x, none))
		wantSame(t, "Then(none, x)", none)(Then(s, none, x))
	}
	wantSame(t, "Then(a, a)", none)(Then(s, a, a))
	wantSame(t, "Union(one, pred)", one)(Union(s, one, pred))
	wantSame(t, "Then(pred, a)", a)(Then(s, pred, a))
	wantSame(t, "Not", not)(Not(s, pred))
	wantSame(t, "Not of Not", pred)(Not(s, not))
	wantSame(t, "Star", star)(Star(s, a))
	wantSame(t, "Star of Star", star)(Star(s, star))
	wantSame(t, "Star of a predicate", one)(Star(s, not))
	wantTooBig(t, s, "Union", func() (int, api.Errno) { return Union(s, a, pred) })
	wantTooBig(t, s, "Then", func() (int, api.Errno) { return Then(s, not, last) })
	wantTooBig(t, s, "Star", func() (int, api.Errno) { return Star(s, last) })
	wantError(t, "Not of no predicate", api.ErrPolicy)(Not(s, a))
	wantError(t, "no node", api.ErrNone)(Union(s, a, last+1))
	wantError(t, "no node", api.ErrNone)(Star(s, last+1))
	wantPorts(t, s, star, 1, 1, 2)
}

// The last diagram that has room, and one that needs a node more.
func TestRoom(t *testing.T) {
	for _, room := range []int{0, 1, 2, 4, 5, 8, 9} {
		s := nodes.New()
		a, b, c := is(t, s, api.To, 1), is(t, s, api.Port, 3), step(t, s, api.Port, 1, 2)
		d, out := step(t, s, api.Port, 5, 6), leaf(t, s, sets(api.Port, 7))
		fill(t, s, room)
		left := room
		for _, x := range []struct {
			what  string
			needs int
			join  func() (int, api.Errno)
		}{
			{"Star", 2, func() (int, api.Errno) { return Star(s, c) }},
			{"a second Star", 1, func() (int, api.Errno) { return Star(s, out) }},
			{"Union", 1, func() (int, api.Errno) { return Union(s, a, b) }},
			{"Then", 1, func() (int, api.Errno) { return Then(s, a, b) }},
			{"Not", 1, func() (int, api.Errno) { return Not(s, a) }},
			{"a Union of two fields", 3, func() (int, api.Errno) { return Union(s, a, d) }},
		} {
			if x.needs > left {
				wantTooBig(t, s, x.what, x.join)
				continue
			}
			count := s.Len()
			id := made(t)(x.join())
			if id != count+x.needs-1 || s.Len() != count+x.needs {
				t.Errorf("room for %d, %s: node %d of %d, %d ahead", room, x.what, id, s.Len(), count)
			}
			left -= x.needs
			wantSame(t, x.what+" again", id)(x.join())
		}
	}
}

// All nodes of what is made are new ones.
func TestRoomForNew(t *testing.T) {
	for room := range 5 {
		s := nodes.New()
		a := ask(t, s, api.To, 1, leaf(t, s, sets(api.Src, 1)), leaf(t, s, sets(api.Src, 2)))
		b := leaf(t, s, sets(api.Port, 3))
		fill(t, s, room)
		if join := func() (int, api.Errno) { return Then(s, a, b) }; room < 3 {
			wantTooBig(t, s, "three nodes", join)
		} else {
			wantRun(t, s, made(t)(join()), api.Header{api.To: 1}, api.Header{api.To: 1, api.Src: 1, api.Port: 3})
		}
	}
}

// What is put together on the way needs no room: what comes of it does. (A star of
// a chain of 63 has a test and a leaf for each.)
func TestRoomOnTheWay(t *testing.T) {
	for _, room := range []int{126, 125, 1} {
		s := nodes.New()
		leaf(t, s, nil)
		a := chain(t, s, api.Port, 63)
		fill(t, s, room)
		if room < 126 {
			wantTooBig(t, s, "a star", func() (int, api.Errno) { return Star(s, a) })
			continue
		}
		star := made(t)(Star(s, a))
		wantPorts(t, s, star, 61, 61, 62, 63, 64)
		if s.Len() != api.MaxNodes {
			t.Error(s.Len(), "nodes")
		}
		wantSame(t, "a star again", star)(Star(s, a))
	}
}
