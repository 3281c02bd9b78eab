package diagram

import (
	"testing"

	"tollbridge/api"
	"tollbridge/nodes"
)

// loose is what a draft that is not strict makes.
func loose(t *testing.T, s *nodes.Store, join func(d *draft) int) int {
	t.Helper()
	return made(t)(sketched(newDraft(false), join).put(s))
}

// Drafts that are not strict make diagrams that do the same, and stars of no fewer rounds.
func TestLoose(t *testing.T) {
	unlike, rounds := 0, 0
	for seed := range 600 {
		m, s := newMaker(seed), nodes.New()
		j := joiner{t, s}
		a, b, p := m.any(t, s), m.any(t, s), m.diagram(t, s, 0, 1, true)
		for what, both := range map[string][2]int{
			"union": {j.union(a, b), loose(t, s, func(d *draft) int { return d.union(d.take(s, a), d.take(s, b)) })},
			"then":  {j.then(a, b), loose(t, s, func(d *draft) int { return d.then(d.take(s, a), d.take(s, b)) })},
			"star":  {j.star(a), loose(t, s, func(d *draft) int { return d.star(d.take(s, a), api.MaxRounds) })},
			"not":   {j.not(p), loose(t, s, func(d *draft) int { return d.not(d.take(s, p)) })},
		} {
			if both[0] != both[1] {
				unlike++
			}
			for _, h := range m.headers() {
				want, _ := Run(s, both[0], h)
				if wantRun(t, s, both[1], h, want...); t.Failed() {
					t.Fatal("seed", seed, what)
				}
			}
		}
		strict, other := roundsOf(s, a, true), roundsOf(s, a, false)
		if other < strict {
			t.Error("seed", seed, other, "rounds of", strict)
		}
		rounds += other - strict
	}
	if unlike < 100 || rounds == 0 {
		t.Error("too few to tell", unlike, rounds)
	}
}

// roundsOf are as many as a star needs.
func roundsOf(s *nodes.Store, a int, isStrict bool) int {
	for rounds := 1; ; rounds++ {
		d := newDraft(isStrict)
		if _, e := attempt(func() int { return d.star(d.take(s, a), rounds) }); e == api.OK {
			return rounds
		}
	}
}

// under makes a predicate of the numbers from 1 to n of Src, and what sets Src by To.
func under(t *testing.T, s *nodes.Store, n uint64) (pred, move int) {
	t.Helper()
	one, none := leaf(t, s, nil), leaf(t, s)
	pred, move = none, none
	for x := n; x >= 1; x-- {
		pred = ask(t, s, api.Src, x, one, pred)
		move = ask(t, s, api.To, x, leaf(t, s, sets(api.Src, x)), move)
	}
	return pred, move
}

// P21.1, P21.2, P21.4: many tests of a field stand over the same, that sets the field
// to each of their numbers.
func TestUnder(t *testing.T) {
	for _, n := range []uint64{10, 100, 400} {
		s := nodes.New()
		j := joiner{t, s}
		pred, move := under(t, s, n)
		then, union := j.then(pred, move), j.union(pred, move)
		for _, x := range []uint64{1, 2, n - 1, n} {
			wantRun(t, s, then, api.Header{api.Src: x, api.To: 3}, api.Header{api.Src: 3, api.To: 3})
			wantRun(t, s, then, api.Header{api.Src: x, api.To: x}, api.Header{api.Src: x, api.To: x})
			wantRun(t, s, then, api.Header{api.Src: x, api.To: n + 1})
			wantRun(t, s, union, api.Header{api.Src: x, api.To: x}, api.Header{api.Src: x, api.To: x})
			wantRun(t, s, union, api.Header{api.Src: n, api.To: x}, plainUnion([]api.Header{{api.Src: n, api.To: x}, {api.Src: x, api.To: x}})...)
		}
		wantRun(t, s, then, api.Header{api.Src: n + 1, api.To: 1})
		wantRun(t, s, union, api.Header{api.Src: n + 1, api.To: 1}, api.Header{api.Src: 1, api.To: 1})
		wantRun(t, s, j.star(then), api.Header{api.Src: n, api.To: 1}, api.Header{api.Src: 1, api.To: 1}, api.Header{api.Src: n, api.To: 1})
		if s.Len() > 20*int(n) {
			t.Error(n, "numbers:", s.Len(), "nodes")
		}
	}
}

// What is greater is put into a store that has it, but no room for what is less.
func TestGreater(t *testing.T) {
	s := nodes.New()
	pred, move := under(t, s, 60)
	strict := sketched(newDraft(true), func(d *draft) int { return d.then(d.take(s, pred), d.take(s, move)) })
	if strict.size <= fewParts {
		t.Error("there are", strict.size, "parts alone")
	}
	count := s.Len()
	then := made(t)(Then(s, pred, move))
	if s.Len() > count+100 {
		t.Error(s.Len(), "nodes, ahead", count)
	}
	s = nodes.New()
	pred, move = under(t, s, 60)
	then = made(t)(strict.put(s))
	fill(t, s, 0)
	wantSame(t, "Then", then)(Then(s, pred, move))
}
