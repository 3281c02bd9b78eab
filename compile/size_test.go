package compile

import (
	"sync"
	"testing"

	"tollbridge/api"
	"tollbridge/nodes"
)

// Many kids are put together in their order, and in good time.
func TestManyKids(t *testing.T) {
	for _, n := range []uint64{1, 2, 63, 64, 65, 66, 127, 128, 129, 300, 1000} {
		s := nodes.New()
		ways, moves, tests := of(api.Union), of(api.Then), of(api.Or)
		for i := range n {
			ways.Kids = append(ways.Kids, step(api.Src, i, i+1))
			moves.Kids = append(moves.Kids, set(api.Src, i+1))
			tests.Kids = append(tests.Kids, is(api.Src, i))
		}
		way := compiled(t, s, ways)
		for i := range n {
			wantRun(t, s, way, api.Header{api.Src: i}, api.Header{api.Src: i + 1})
		}
		wantRun(t, s, way, api.Header{api.Src: n})
		wantRun(t, s, compiled(t, s, moves), api.Header{}, api.Header{api.Src: n})
		some := compiled(t, s, tests)
		wantRun(t, s, some, api.Header{api.Src: n - 1}, api.Header{api.Src: n - 1})
		wantRun(t, s, some, api.Header{api.Src: n})
		none := compiled(t, s, not(tests))
		wantRun(t, s, none, api.Header{api.Src: n - 1})
		wantRun(t, s, none, api.Header{api.Src: n}, api.Header{api.Src: n})
	}
}

// As many terms as there may be.
func TestManyTerms(t *testing.T) {
	s := nodes.New()
	rules := of(api.Union)
	for i := range uint64(1023) {
		rules.Kids = append(rules.Kids, step(api.To, i, i%16+1))
	}
	node := compiled(t, s, rules)
	wantRun(t, s, node, api.Header{api.To: 1022}, api.Header{api.To: 1022%16 + 1})
	wantRun(t, s, node, api.Header{api.To: 1023})
	sets := of(api.Union)
	for i := range uint64(4095) {
		sets.Kids = append(sets.Kids, set(api.Src, i))
	}
	wantCount(t, s, compiled(t, s, sets), api.Header{api.Src: 9}, 4095)
	sets.Kids = sets.Kids[1:]
	wantCount(t, s, compiled(t, s, star(sets)), api.Header{}, 4095)
	guard := of(api.Then)
	for i := range uint64(1000) {
		guard.Kids = append(guard.Kids, filter(not(is(api.Dst, i))))
	}
	guard.Kids = append(guard.Kids, set(api.Port, 4))
	node = compiled(t, s, guard)
	wantRun(t, s, node, api.Header{api.Dst: 999})
	wantRun(t, s, node, api.Header{api.Dst: 1000}, api.Header{api.Dst: 1000, api.Port: 4})
}

func wantCount(t *testing.T, s *nodes.Store, node int, h api.Header, want int) {
	t.Helper()
	if list := run(t, s, node, h); len(list) != want {
		t.Errorf("%d headers, want %d", len(list), want)
	}
}

// As deep terms as there may be.
func TestDeep(t *testing.T) {
	s := nodes.New()
	choice := set(api.Port, 1)
	for i := range uint64(60) { // each 2 deeper
		choice = either(is(api.To, i), set(api.Port, i+2), choice)
	}
	node := compiled(t, s, choice)
	for i := range uint64(60) {
		wantRun(t, s, node, api.Header{api.To: i}, api.Header{api.To: i, api.Port: i + 2})
	}
	wantRun(t, s, node, api.Header{api.To: 60}, api.Header{api.To: 60, api.Port: 1})
	stars := step(api.Port, 1, 2)
	for range api.MaxDepth - 3 {
		stars = star(stars)
	}
	wantRun(t, s, compiled(t, s, stars), api.Header{api.Port: 1}, api.Header{api.Port: 1}, api.Header{api.Port: 2})
	wantError(t, "129 deep", star(stars), api.ErrTooBig)
}

// P22.2: small ones of many rows, that no header comes to.
func TestUnreached(t *testing.T) {
	fields := settable()
	all, groups, steps := of(api.Union), then(drop()), of(api.Union)
	for i := range 25 {
		all.Kids = append(all.Kids, set(fields[i%7], uint64(i/7+1)))
	}
	for _, field := range fields[:6] {
		groups.Kids = append(groups.Kids, union(set(field, 1), set(field, 2), set(field, 3)))
	}
	for i, field := range fields[:5] {
		steps.Kids = append(steps.Kids, step(field, 1, 1), set(fields[i+1], 2))
	}
	s := nodes.New()
	for _, kid := range []api.Term{star(all), groups, star(groups), star(steps)} {
		term := then(drop(), kid)
		wantRun(t, s, compiled(t, s, term), api.Header{api.Src: 1})
	}
}

// R2: no answer hangs on who asks at the same time.
func TestAsked(t *testing.T) {
	var group sync.WaitGroup
	terms := []api.Term{star(chain(api.Port, 20)), cross(10), is(api.To, 4), of(99), star(chain(api.To, 64))}
	var ids []int
	var faults []api.Errno
	one := nodes.New()
	for _, term := range terms {
		node, e := Of(one, term)
		ids, faults = append(ids, node), append(faults, e)
	}
	for range 8 {
		group.Go(func() {
			s := nodes.New()
			for i, term := range terms {
				if node, e := Of(s, term); node != ids[i] || e != faults[i] {
					t.Errorf("%d: %d, %v, want %d, %v", i, node, e, ids[i], faults[i])
				}
			}
		})
	}
	group.Wait()
}

// Diagrams to which many ways lead are gone down once.
func TestManyWays(t *testing.T) {
	turn := union(step(api.Port, 1, 2), step(api.Port, 2, 1))
	all := of(api.Then)
	for _, field := range askable() {
		if field != api.Port {
			some := of(api.Or)
			for n := range uint64(8) {
				some.Kids = append(some.Kids, is(field, n+1))
			}
			all.Kids = append(all.Kids, either(some, turn, id()))
		}
	}
	s := nodes.New()
	node := compiled(t, s, then(filter(or(is(api.Port, 1), is(api.Port, 2))), all))
	h := api.Header{api.Port: 1}
	for i, field := range askable()[:8] {
		h[field] = uint64(i%8) + 1
		want := h
		want[api.Port] = 1 + uint64(i+1)%2
		wantRun(t, s, node, h, want)
	}
	wantRun(t, s, node, api.Header{api.Port: 3, api.Src: 1})
	if s.Len() > 1000 {
		t.Error(s.Len(), "nodes")
	}
}

// Many tests of a field stand over what sets it to each of their numbers.
func TestUnder(t *testing.T) {
	const n = 400
	some, moves := of(api.Or), of(api.Union)
	for x := range uint64(n) {
		some.Kids = append(some.Kids, is(api.Src, x+1))
		moves.Kids = append(moves.Kids, then(filter(is(api.To, x+1)), set(api.Src, x+1)))
	}
	s := nodes.New()
	node := compiled(t, s, then(filter(some), moves, union(id(), set(api.Port, 1))))
	for x := range uint64(n) {
		to := api.Header{api.Src: x + 1, api.To: x + 1}
		out := to
		out[api.Port] = 1
		wantRun(t, s, node, api.Header{api.Src: 9, api.To: x + 1}, to, out)
		wantRun(t, s, node, api.Header{api.Src: x + 1, api.To: n + 1})
	}
	wantRun(t, s, node, api.Header{api.Src: n + 1, api.To: 1})
}
