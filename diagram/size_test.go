package diagram

import (
	"testing"

	"tollbridge/api"
	"tollbridge/nodes"
)

// numbers is a leaf that sets a field to each number from 1 to n.
func numbers(t *testing.T, s *nodes.Store, field int, n uint64) int {
	t.Helper()
	var rows [][]api.Action
	for ; n >= 1; n-- {
		rows = append(rows, sets(uint64(field), n))
	}
	return leaf(t, s, rows...)
}

// wantCount is how many headers a diagram makes of one.
func wantCount(t *testing.T, s *nodes.Store, id int, h api.Header, want int) {
	t.Helper()
	if list, e := Run(s, id, h); e != api.OK || len(list) != want {
		t.Errorf("%d headers, %v, want %d", len(list), e, want)
	}
}

// P21.1, P21.2, P21.4: how many rows a leaf comes to have is no error.
func TestManyRows(t *testing.T) {
	const n, most = 400, 800
	s := nodes.New()
	j := joiner{t, s}
	wantCount(t, s, j.then(numbers(t, s, api.To, most), numbers(t, s, api.Src, most)), api.Header{}, most*most)
	a, b := numbers(t, s, api.To, n), numbers(t, s, api.Src, n)
	two := j.then(a, b)
	wantCount(t, s, two, api.Header{}, n*n)
	wantSame(t, "Then of rows that set the same", two)(Then(s, two, two))
	wantCount(t, s, j.union(two, numbers(t, s, api.Src, n+1)), api.Header{}, n*n+n+1)
	wantCount(t, s, j.star(j.union(a, b)), api.Header{}, (n+1)*(n+1))
	wantCount(t, s, j.star(j.union(a, b)), api.Header{api.Src: 1, api.To: n}, n*n)
	wantCount(t, s, j.then(two, numbers(t, s, api.Src, 20)), api.Header{}, 20*n)
	wantCount(t, s, j.then(two, is(t, s, api.Src, 5)), api.Header{}, n)
	next := j.then(two, chain(t, s, api.Src, n/2))
	wantCount(t, s, next, api.Header{}, n*n/2)
	wantCount(t, s, next, api.Header{api.Src: 2, api.To: 3}, n*n/2)
}

// R1: what has more rows than can be answered ends.
func TestTooManyRows(t *testing.T) {
	s := nodes.New()
	j := joiner{t, s}
	two := j.then(numbers(t, s, api.Src, 300), numbers(t, s, api.Dst, 300))
	three := numbers(t, s, api.Port, 300)
	wantTooBig(t, s, "2.7 * 10^7 rows", func() (int, api.Errno) { return Then(s, two, three) })
	all := j.union(numbers(t, s, api.Src, 300), j.union(numbers(t, s, api.Dst, 300), three))
	wantTooBig(t, s, "301^3 rows", func() (int, api.Errno) { return Star(s, all) })
	wantCount(t, s, j.union(all, two), api.Header{}, 90900)
}

// The longest chains that a store has room for.
func TestLongChain(t *testing.T) {
	s := nodes.New()
	none, one := leaf(t, s), leaf(t, s, nil)
	pred := none
	for n := uint64(api.MaxNodes - 2); n >= 1; n-- {
		pred = ask(t, s, api.To, n, one, pred)
	}
	wantSame(t, "Union", one)(Union(s, pred, one))
	wantSame(t, "Then", pred)(Then(s, pred, ask(t, s, api.To, 1, one, pred-1)))
	wantSame(t, "Star", one)(Star(s, pred))
	wantTooBig(t, s, "Not", func() (int, api.Errno) { return Not(s, pred) })
	wantRun(t, s, pred, api.Header{api.To: api.MaxNodes - 2}, api.Header{api.To: api.MaxNodes - 2})
	wantRun(t, s, pred, api.Header{api.To: api.MaxNodes - 1})
}

// Chains side by side, and one behind the other: what comes of them is found in
// about as many steps as they have tests.
func TestChains(t *testing.T) {
	const n = 5000
	s := nodes.New()
	j := joiner{t, s}
	turn, out := leaf(t, s, nil), leaf(t, s)
	for x := uint64(n); x >= 1; x-- {
		turn = ask(t, s, api.To, 2*x, leaf(t, s, sets(api.To, 2*(n-x)+1)), turn)
		out = ask(t, s, api.To, 2*x-1, leaf(t, s, sets(api.Port, x)), out)
	}
	then, union := j.then(turn, out), j.union(turn, out)
	wantRun(t, s, then, api.Header{api.To: 10}, api.Header{api.To: 2*(n-5) + 1, api.Port: n - 4})
	wantRun(t, s, then, api.Header{api.To: 2*n - 1}, api.Header{api.To: 2*n - 1, api.Port: n})
	wantRun(t, s, then, api.Header{api.To: 2*n + 1})
	wantRun(t, s, union, api.Header{api.To: 10}, api.Header{api.To: 2*(n-5) + 1})
	wantRun(t, s, union, api.Header{api.To: 1}, api.Header{api.To: 1}, api.Header{api.To: 1, api.Port: 1})
	wantRun(t, s, j.then(out, turn), api.Header{api.To: 1}, api.Header{api.To: 1, api.Port: 1})
	wantRun(t, s, j.star(turn), api.Header{api.To: 10}, api.Header{api.To: 10}, api.Header{api.To: 2*(n-5) + 1})
}

// Millions of pairs of parts that come to the same.
func TestPairs(t *testing.T) {
	const n = 1200
	s := nodes.New()
	both := leaf(t, s, nil, sets(api.Port, 1))
	up, down := both, both
	for x := uint64(n); x >= 1; x-- {
		up = ask(t, s, api.Src, x, ask(t, s, api.Kind, x, leaf(t, s, sets(api.Port, 1)), both), up)
		down = ask(t, s, api.Dst, x, ask(t, s, api.Kind, x+n, leaf(t, s, nil), both), down)
	}
	wantSame(t, "Union", both)(Union(s, up, down))
}

// A star of many leaves, each of many rows, that takes all the rounds there may be; and
// one round more.
func TestStarOfTwo(t *testing.T) {
	s := nodes.New()
	j := joiner{t, s}
	src, dst := chain(t, s, api.Src, 5), chain(t, s, api.Dst, 58)
	star := j.star(j.union(src, dst))
	for from := uint64(1); from <= 7; from++ {
		for to := uint64(1); to <= 60; to++ {
			wantCount(t, s, star, api.Header{api.Src: from, api.Dst: to}, int(max(7-from, 1)*max(60-to, 1)))
		}
	}
	more := j.union(src, chain(t, s, api.Dst, 59))
	wantTooBig(t, s, "65 rounds", func() (int, api.Errno) { return Star(s, more) })
	wantCount(t, s, j.star(j.union(chain(t, s, api.Src, 30), chain(t, s, api.Dst, 30))), api.Header{api.Src: 1, api.Dst: 1}, 31*31)
}

// What has too many nodes is found to be so long before it is made.
func TestTooManyNodes(t *testing.T) {
	const n = 10000
	s := nodes.New()
	a, b := chain(t, s, api.Src, n), chain(t, s, api.Dst, n)
	wantTooBig(t, s, "Union", func() (int, api.Errno) { return Union(s, a, b) })
	wantTooBig(t, s, "Then", func() (int, api.Errno) { return Then(s, a, b) })
	d := newDraft(true)
	func() {
		defer func() { recover() }()
		x, y := d.take(s, a), d.take(s, b)
		d.isLast = true
		d.union(x, y)
		t.Error("that has", len(d.parts), "parts")
	}()
	if len(d.parts) > 8*api.MaxNodes {
		t.Error("found behind", len(d.parts), "parts")
	}
	few := func(field int) int { return chain(t, s, field, 100) }
	both := made(t)(Union(s, few(api.Src), few(api.Dst)))
	wantRun(t, s, both, api.Header{api.Src: 7, api.Dst: 9}, api.Header{api.Src: 7, api.Dst: 10}, api.Header{api.Src: 8, api.Dst: 9})
}

// What is the same for many numbers is made once.
func TestAlike(t *testing.T) {
	const n = 3000
	s := nodes.New()
	one, none := leaf(t, s, nil), leaf(t, s)
	out, pred := none, none
	for x := uint64(n); x >= 1; x-- {
		out = ask(t, s, api.Dst, x, leaf(t, s, sets(api.Port, x), sets(api.Port, x, api.Src, 1), sets(api.Port, x, api.Src, n+1)), out)
		pred = ask(t, s, api.Src, x, one, pred)
	}
	d := newDraft(true)
	d.then(d.take(s, out), d.take(s, pred))
	if len(d.ahead) > 400*n {
		t.Error(len(d.ahead), "pairs")
	}
	then := made(t)(Then(s, out, pred))
	first := api.Header{api.Src: 1, api.Dst: 9, api.Port: 9}
	wantRun(t, s, then, api.Header{api.Src: 8, api.Dst: 9}, first, api.Header{api.Src: 8, api.Dst: 9, api.Port: 9})
	wantRun(t, s, then, api.Header{api.Src: 1, api.Dst: 9}, first)
	wantRun(t, s, then, api.Header{api.Src: n + 1, api.Dst: 9}, first)
	wantRun(t, s, then, api.Header{api.Src: 9, api.Dst: n + 1})
}

// A field's tests are found by their numbers, in few steps.
func TestSeek(t *testing.T) {
	d := newDraft(true)
	end := d.test(test{api.Dst, 3}, d.one, d.none)
	for _, count := range []uint64{1, 2, 3, 4, 7, 8, 31, 32, 1000} {
		at := end
		for n := count; n >= 1; n-- {
			at = d.test(test{api.Src, 2 * n}, d.one, at)
		}
		for n := range 2*count + 2 {
			found := &d.parts[d.seek(at, test{api.Src, n})]
			if n > 2*count {
				if found.field != api.Dst {
					t.Error(count, n, found)
				}
			} else if found.field != api.Src || found.n != max(2, n+n%2) {
				t.Error(count, n, found)
			}
			if d.seek(at, test{api.Dst, 9}) != at || d.seek(end, test{api.Src, n}) != end || d.seek(d.one, test{api.Src, n}) != d.one {
				t.Error("another field's tests were sought")
			}
		}
		steps := 0
		for d.parts[at].field == api.Src {
			at = d.parts[at].jump
			steps++
		}
		if steps > 10 {
			t.Error(count, "tests are gone through in", steps, "jumps")
		}
	}
}

// odd holds, if an odd count of fields from one on are from 1 to 8. It has few nodes,
// but more ways down than can be gone.
func odd(t *testing.T, s *nodes.Store, from int) int {
	t.Helper()
	holds, fails := leaf(t, s), leaf(t, s, nil) // of no field
	for field := api.Port; field >= from; field-- {
		turned, same := fails, holds
		for n := uint64(8); n >= 1; n-- {
			turned, same = ask(t, s, field, n, holds, turned), ask(t, s, field, n, fails, same)
		}
		holds, fails = same, turned
	}
	return holds
}

// Parts to which many ways lead are gone down once.
func TestManyWays(t *testing.T) {
	s := nodes.New()
	j := joiner{t, s}
	one, all, most := leaf(t, s, nil), odd(t, s, api.Src), odd(t, s, api.Dst)
	out := leaf(t, s, sets(api.Port, 1), sets(api.DPort, 9))
	four := api.Header{api.Src: 1, api.Kind: 8, api.To: 3, api.DPort: 2}
	five := api.Header{api.Src: 1, api.Kind: 8, api.To: 3, api.DPort: 2, api.Port: 8}
	for _, x := range []struct {
		what       string
		id         int
		four, five int
	}{
		{"all", all, 0, 1}, {"not", j.not(all), 1, 0}, {"union", j.union(all, most), 1, 1}, {"then", j.then(all, most), 0, 0},
		{"neither", j.then(j.not(all), j.not(most)), 0, 0}, {"one", j.then(j.not(all), most), 1, 0}, {"star", j.star(j.then(all, out)), 1, 4}, {"out", j.then(out, all), 2, 1},
	} {
		if list, e := Run(s, x.id, four); e != api.OK || len(list) != x.four {
			t.Errorf("%s: %d of four, want %d", x.what, len(list), x.four)
		}
		if list, e := Run(s, x.id, five); e != api.OK || len(list) != x.five {
			t.Errorf("%s: %d of five, want %d", x.what, len(list), x.five)
		}
	}
	wantError(t, "Not", api.ErrPolicy)(Not(s, j.then(all, out)))
	wantSame(t, "all or not", one)(Union(s, all, j.not(all)))
}
