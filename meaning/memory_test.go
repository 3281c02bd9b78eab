package meaning

import (
	"math/rand"
	"slices"
	"sync"
	"testing"

	"tollbridge/api"
)

// copied is a term whose lists are its own, with a mark behind the end of each.
func copied(t api.Term) api.Term {
	kids := make([]api.Term, 0, len(t.Kids)+1)
	for _, kid := range t.Kids {
		kids = append(kids, copied(kid))
	}
	_ = append(kids, api.Term{Op: 77})
	t.Kids = kids
	return t
}

func sameTerm(a, b api.Term) bool {
	return a.Op == b.Op && a.Field == b.Field && a.N == b.N && slices.EqualFunc(a.Kids, b.Kids, sameTerm)
}

func isMarked(t api.Term) bool {
	return t.Kids[:len(t.Kids)+1][len(t.Kids)].Op == 77 && !slices.ContainsFunc(t.Kids, func(kid api.Term) bool { return !isMarked(kid) })
}

// wipe writes into all lists of a term.
func wipe(t api.Term) {
	for i := range t.Kids {
		wipe(t.Kids[i])
		t.Kids[i] = api.Term{Op: 99}
	}
}

// R3: nothing that is handed in is changed or kept, and what is handed out is the
// caller's own.
func TestOwn(t *testing.T) {
	m := maker{rand.New(rand.NewSource(3)), true}
	for range 3000 {
		pol, h := m.pol(m.Intn(5)), m.header()
		if m.Intn(4) == 0 {
			pol = m.steps()
		}
		given := copied(pol)
		list, e := Of(given, h)
		if !sameTerm(given, pol) || !isMarked(given) {
			t.Errorf("%v was changed", pol)
		}
		want := slices.Clone(list)
		again, _ := Of(given, h)
		for i := range again[:cap(again)] {
			again[:cap(again)][i] = full()
		}
		wipe(given)
		if !slices.Equal(list, want) {
			t.Errorf("%v: an answer was changed by another's, or by the policy", pol)
		}
		if third, f := Of(pol, h); f != e || !slices.Equal(third, want) {
			t.Errorf("%v: %v, %v, want %v, %v", pol, third, f, want, e)
		}
		pred := m.pred(m.Intn(5))
		asked := copied(pred)
		if Holds(asked, h) != Holds(pred, h) || !sameTerm(asked, pred) || !isMarked(asked) {
			t.Errorf("%v was changed", pred)
		}
	}
}

// R6: empty lists are nil or not, and lists may be shared within a policy.
func TestLists(t *testing.T) {
	h := example()
	empty := func(x api.Term) api.Term {
		x.Kids = []api.Term{}
		return x
	}
	wantPorts(t, then(filter(empty(is(api.Port, 1))), empty(set(api.Port, 2)), filter(empty(yes()))), h, 2)
	wantHolds(t, not(empty(no())), h, true)
	shared := []api.Term{set(api.Port, 2), set(api.Port, 3), filter(is(api.Port, 3))}
	wantPorts(t, union(term(api.Then, shared...), term(api.Union, shared...), term(api.Then, shared[:1]...)), h, 2, 3)
}

// R1: lists that lie in themselves, or are very long or deep, end too.
func TestEndless(t *testing.T) {
	ring := make([]api.Term, 2)
	for _, op := range []int8{api.No, api.Yes, api.Is, api.Not, api.And, api.Or, api.Filter, api.Set, api.Union, api.Then, api.Star, 99, -1} {
		ring[0], ring[1] = api.Term{Op: op, Kids: ring}, api.Term{Op: op, Kids: ring[:1]}
		wantError(t, ring[0], example(), api.ErrTooBig, "a ring")
		wantError(t, ring[1], example(), api.ErrTooBig, "a ring of one")
		wantError(t, filter(ring[0]), example(), api.ErrTooBig, "a ring in a Filter")
		if Holds(ring[0], example()) || Holds(ring[1], example()) || Holds(or(yes(), ring[0]), example()) {
			t.Errorf("a ring of %d holds", op)
		}
	}
	one := set(api.Port, 2)
	wantError(t, then(repeated(1<<20, one)...), example(), api.ErrTooBig, "2^20 Kids")
	wantPorts(t, then(repeated(api.MaxTerms-1, one)...), example(), 2)
	wantError(t, then(repeated(api.MaxTerms, one)...), example(), api.ErrTooBig, "4097 terms")
	wantPorts(t, filter(and(repeated(api.MaxTerms-2, yes())...)), example(), 1)
	wantHolds(t, or(repeated(api.MaxTerms-2, no())...), example(), false)
	if !Holds(and(repeated(api.MaxTerms-1, yes())...), example()) || Holds(and(repeated(api.MaxTerms, yes())...), example()) {
		t.Error("4096 and 4097 terms")
	}
}

// nested goes down by a way, so many times, to a last term.
func nested(n int, last api.Term, over func(kid api.Term) api.Term) api.Term {
	for range n {
		last = over(last)
	}
	return last
}

// P19.1, P19.2: the deepest terms, and those one deeper.
func TestDeep(t *testing.T) {
	one := set(api.Port, 2)
	for what, over := range map[string]func(kid api.Term) api.Term{
		"Union":      func(kid api.Term) api.Term { return union(kid) },
		"Then":       func(kid api.Term) api.Term { return then(kid) },
		"Then ahead": func(kid api.Term) api.Term { return then(kid, one) },
		"Then last":  func(kid api.Term) api.Term { return then(one, one, kid) },
		"Union last": func(kid api.Term) api.Term { return union(one, kid) },
	} {
		wantPorts(t, nested(127, one, over), example(), 2)
		wantError(t, nested(128, one, over), example(), api.ErrTooBig, what+", 129 deep")
	}
	wantPorts(t, nested(126, filter(yes()), star), example(), 1)
	wantPorts(t, nested(126, filter(is(api.Port, 2)), star), example(), 1)
	wantError(t, nested(127, filter(yes()), star), example(), api.ErrTooBig, "129 deep")
	wantPorts(t, nested(127, one, star), with(example(), api.Port, 2), 2)
	wantPorts(t, nested(127, one, star), example(), 1, 2)
	wantHolds(t, nested(126, yes(), not), example(), true)
	wantHolds(t, nested(125, yes(), not), example(), false)
	if !Holds(nested(126, yes(), not), example()) || Holds(nested(127, yes(), not), example()) || !Holds(nested(127, no(), not), example()) || Holds(nested(128, yes(), not), example()) {
		t.Error("Nots, 127 to 129 deep")
	}
}

// The slowest policies end soon: as many stars as there may be, below as much work
// as there may be.
func TestSlow(t *testing.T) {
	still := nested(120, set(api.Port, 1), star)
	among := union(append([]api.Term{ways(api.Dst, 60)}, repeated(28, still)...)...)
	wantError(t, star(star(among)), example(), api.ErrTooBig, "stars")
	wantError(t, star(star(union(ways(api.Dst, 60), then(append([]api.Term{filter(no())}, repeated(3000, set(api.Port, 1))...)...)))), example(), api.ErrTooBig, "what is never asked")
}

// R2: no answer hangs on who asks at the same time.
func TestAsked(t *testing.T) {
	p := copied(read(t, "( filter port = 1 ; port := 2 + filter port = 2 ; ( port := 3 + to := 10.0.0.1 ) ) * ; filter ! ( port = 1 | switch = 3 )").Main)
	big := ways(api.Dst, 65)
	want, e := Of(p, example())
	if e != api.OK || len(want) != 4 {
		t.Fatal(want, e)
	}
	var group sync.WaitGroup
	for range 8 {
		group.Go(func() {
			for range 50 {
				wantSet(t, p, example(), want...)
				wantError(t, big, example(), api.ErrTooBig, "too many headers")
				wantHolds(t, p.Kids[1].Kids[0], example(), false)
			}
		})
	}
	group.Wait()
}
