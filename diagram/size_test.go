package diagram

import (
	"testing"

	"tollbridge/api"
	"tollbridge/nodes"
)

// numbers is a leaf that sets a field to each number from 1 to n.
func numbers(t *testing.T, s *nodes.Store, field int, n uint64) int {
	t.Helper()
	var rows [][]api.Action
	for ; n >= 1; n-- {
		rows = append(rows, sets(uint64(field), n))
	}
	return leaf(t, s, rows...)
}

// wantCount is how many headers a diagram makes of one.
func wantCount(t *testing.T, s *nodes.Store, id int, h api.Header, want int) {
	t.Helper()
	if list, e := Run(s, id, h); e != api.OK || len(list) != want {
		t.Errorf("%d headers, %v, want %d", len(list), e, want)
	}
}

// R1: what has more rows than there is memory for ends.
func TestRows(t *testing.T) {
	s := nodes.New()
	j := joiner{t, s}
	two := j.then(numbers(t, s, api.Src, 300), numbers(t, s, api.Dst, 300))
	wantCount(t, s, two, api.Header{}, 90000)
	wantCount(t, s, j.union(two, numbers(t, s, api.Src, 301)), api.Header{}, 90301)
	wantCount(t, s, j.then(two, numbers(t, s, api.Dst, 20)), api.Header{}, 6000)
	wantTooBig(t, s, "8 * 10^9 rows", func() (int, api.Errno) { return Then(s, two, two) })
	wantCount(t, s, j.then(two, is(t, s, api.Dst, 5)), api.Header{}, 300)
	three := numbers(t, s, api.Port, 300)
	wantTooBig(t, s, "2.7 * 10^7 rows", func() (int, api.Errno) { return Then(s, two, three) })
	all := leaf(t, s)
	for field := range api.Switch {
		all = j.union(all, numbers(t, s, field, 200))
	}
	wantTooBig(t, s, "201^10 rows", func() (int, api.Errno) { return Star(s, all) })
}

// The longest chains that a store has room for.
func TestLongChain(t *testing.T) {
	s := nodes.New()
	none, one := leaf(t, s), leaf(t, s, nil)
	pred := none
	for n := uint64(api.MaxNodes - 2); n >= 1; n-- {
		pred = ask(t, s, api.To, n, one, pred)
	}
	wantSame(t, "Union", one)(Union(s, pred, one))
	wantSame(t, "Then", pred)(Then(s, pred, ask(t, s, api.To, 1, one, pred-1)))
	wantSame(t, "Star", one)(Star(s, pred))
	wantTooBig(t, s, "Not", func() (int, api.Errno) { return Not(s, pred) })
	wantRun(t, s, pred, api.Header{api.To: api.MaxNodes - 2}, api.Header{api.To: api.MaxNodes - 2})
	wantRun(t, s, pred, api.Header{api.To: api.MaxNodes - 1})
}

// Chains side by side, and one behind the other: what comes of them is found in
// about as many steps as they have tests.
func TestChains(t *testing.T) {
	const n = 5000
	s := nodes.New()
	j := joiner{t, s}
	turn, out := leaf(t, s, nil), leaf(t, s)
	for x := uint64(n); x >= 1; x-- {
		turn = ask(t, s, api.To, 2*x, leaf(t, s, sets(api.To, 2*(n-x)+1)), turn)
		out = ask(t, s, api.To, 2*x-1, leaf(t, s, sets(api.Port, x)), out)
	}
	then, union := j.then(turn, out), j.union(turn, out)
	wantRun(t, s, then, api.Header{api.To: 10}, api.Header{api.To: 2*(n-5) + 1, api.Port: n - 4})
	wantRun(t, s, then, api.Header{api.To: 2*n - 1}, api.Header{api.To: 2*n - 1, api.Port: n})
	wantRun(t, s, then, api.Header{api.To: 2*n + 1})
	wantRun(t, s, union, api.Header{api.To: 10}, api.Header{api.To: 2*(n-5) + 1})
	wantRun(t, s, union, api.Header{api.To: 1}, api.Header{api.To: 1}, api.Header{api.To: 1, api.Port: 1})
	wantRun(t, s, j.then(out, turn), api.Header{api.To: 1}, api.Header{api.To: 1, api.Port: 1})
	wantRun(t, s, j.star(turn), api.Header{api.To: 10}, api.Header{api.To: 10}, api.Header{api.To: 2*(n-5) + 1})
}

// Many pairs of parts that come to the same.
func TestPairs(t *testing.T) {
	s := nodes.New()
	both := leaf(t, s, nil, sets(api.Port, 1))
	up, down := both, both
	for n := uint64(500); n >= 1; n-- {
		up = ask(t, s, api.Src, n, ask(t, s, api.Kind, n, leaf(t, s, sets(api.Port, 1)), both), up)
		down = ask(t, s, api.Dst, n, ask(t, s, api.Kind, n+500, leaf(t, s, nil), both), down)
	}
	wantSame(t, "Union", both)(Union(s, up, down))
}

// odd holds, if an odd count of fields from one on are from 1 to 8. It has few nodes,
// but more ways down than can be gone.
func odd(t *testing.T, s *nodes.Store, from int) int {
	t.Helper()
	holds, fails := leaf(t, s), leaf(t, s, nil) // of no field
	for field := api.Port; field >= from; field-- {
		turned, same := fails, holds
		for n := uint64(8); n >= 1; n-- {
			turned, same = ask(t, s, field, n, holds, turned), ask(t, s, field, n, fails, same)
		}
		holds, fails = same, turned
	}
	return holds
}

// Parts to which many ways lead are gone down once.
func TestManyWays(t *testing.T) {
	s := nodes.New()
	j := joiner{t, s}
	one, all, most := leaf(t, s, nil), odd(t, s, api.Src), odd(t, s, api.Dst)
	out := leaf(t, s, sets(api.Port, 1), sets(api.DPort, 9))
	four := api.Header{api.Src: 1, api.Kind: 8, api.To: 3, api.DPort: 2}
	five := api.Header{api.Src: 1, api.Kind: 8, api.To: 3, api.DPort: 2, api.Port: 8}
	for _, x := range []struct {
		what       string
		id         int
		four, five int
	}{
		{"all", all, 0, 1}, {"not", j.not(all), 1, 0}, {"union", j.union(all, most), 1, 1}, {"then", j.then(all, most), 0, 0},
		{"neither", j.then(j.not(all), j.not(most)), 0, 0}, {"one", j.then(j.not(all), most), 1, 0}, {"star", j.star(j.then(all, out)), 1, 4}, {"out", j.then(out, all), 2, 1},
	} {
		if list, e := Run(s, x.id, four); e != api.OK || len(list) != x.four {
			t.Errorf("%s: %d of four, want %d", x.what, len(list), x.four)
		}
		if list, e := Run(s, x.id, five); e != api.OK || len(list) != x.five {
			t.Errorf("%s: %d of five, want %d", x.what, len(list), x.five)
		}
	}
	wantError(t, "Not", api.ErrPolicy)(Not(s, j.then(all, out)))
	wantSame(t, "all or not", one)(Union(s, all, j.not(all)))
}
