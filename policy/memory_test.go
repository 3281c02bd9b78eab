package policy

import (
	"math/rand"
	"slices"
	"sync"
	"testing"

	"tollbridge/api"
	"tollbridge/parse"
)

// roomy is a copy of a term all of whose lists have a mark in the room behind
// their ends.
func roomy(t api.Term) api.Term {
	kids := make([]api.Term, 0, len(t.Kids)+2)
	for _, kid := range t.Kids {
		kids = append(kids, roomy(kid))
	}
	_ = append(kids, api.Term{Op: 77}, api.Term{Op: 78})
	t.Kids = kids
	return t
}

// isRoomy tells whether the marks stand where roomy put them.
func isRoomy(t api.Term) bool {
	room := t.Kids[:len(t.Kids)+2]
	return room[len(t.Kids)].Op == 77 && room[len(t.Kids)+1].Op == 78 && !slices.ContainsFunc(t.Kids, func(kid api.Term) bool { return !isRoomy(kid) })
}

func roomyPolicy(p api.Policy) api.Policy {
	made := api.Policy{Main: roomy(p.Main), Queries: make([]api.Query, 0, len(p.Queries)+1)}
	for _, q := range p.Queries {
		made.Queries = append(made.Queries, query(q.Name, roomy(q.Pred)))
	}
	_ = append(made.Queries, query("mark", no()))
	return made
}

func isRoomyPolicy(p api.Policy) bool {
	isMarked := p.Queries[:len(p.Queries)+1][len(p.Queries)].Name == "mark"
	return isMarked && isRoomy(p.Main) && !slices.ContainsFunc(p.Queries, func(q api.Query) bool { return !isRoomy(q.Pred) })
}

// lists are all lists of Kids of a policy, with the room behind their ends.
func lists(p api.Policy) [][]api.Term {
	var all [][]api.Term
	for _, x := range spots(&p) {
		if cap(x.Kids) > 0 {
			all = append(all, x.Kids[:cap(x.Kids)])
		}
	}
	return all
}

// isApart writes into every list, and tells whether each has what was written
// into it, and nothing of the others.
func isApart(all [][]api.Term) bool {
	for i, list := range all {
		for j := range list {
			list[j] = api.Term{Op: -7, N: uint64(i)<<32 | uint64(j)}
		}
	}
	for i, list := range all {
		for j := range list {
			if list[j].N != uint64(i)<<32|uint64(j) {
				return false
			}
		}
	}
	return true
}

// wantOwn asks for R3: a plain form of its own, whose lists are apart.
func wantOwn(t *testing.T, p api.Policy) {
	t.Helper()
	given := roomyPolicy(p)
	made, e := Plain(given)
	want, _ := Plain(p)
	if e != api.OK || !samePolicy(given, p) || !isRoomyPolicy(given) {
		t.Errorf("%v was changed by asking", p)
	}
	if !isApart(lists(made)) {
		t.Errorf("%v: two lists of the answer share memory", p)
	}
	queries := made.Queries[:cap(made.Queries)]
	for i := range queries {
		queries[i] = query("other", filter(no()))
	}
	if !samePolicy(given, p) || !isRoomyPolicy(given) {
		t.Errorf("%v was changed by writing into the answer", p)
	}
	again, e := Plain(given)
	if e != api.OK || !samePolicy(again, want) {
		t.Errorf("%v: another answer: %v, %v", p, again, e)
	}
	isApart(lists(given))
	for i := range given.Queries {
		given.Queries[i] = query("gone", set(api.Port, 9))
	}
	if !samePolicy(again, want) {
		t.Errorf("%v: writing into the policy changed its plain form", p)
	}
}

// R3: what Plain gives is the caller's own, whatever rows made it.
func TestPlainIsOwn(t *testing.T) {
	a, b := is(api.Port, 1), is(api.To, 2)
	and, or := term(api.And, a, b), term(api.Or, a, b)
	one, two := set(api.Port, 1), set(api.Port, 2)
	then, union := term(api.Then, one, two), term(api.Union, one, two)
	for _, pred := range []api.Term{
		yes(), no(), a, not(a), and, or, not(not(and)), not(not(not(and))), not(yes()), not(no()), term(api.And, and), term(api.And, and, and), term(api.And, yes(), and),
		term(api.And, and, or, and), term(api.Or, or, or, no()), term(api.Or, and, and), term(api.And, not(and), not(and)), term(api.And, no(), and), term(api.Or, yes(), and), term(api.Or, no()),
	} {
		wantOwn(t, policyOf(filter(pred)))
		wantOwn(t, policyOf(one, query("a", pred), query("b", pred)))
	}
	for _, pol := range []api.Term{
		one, filter(and), then, union, star(one), star(star(then)), star(filter(and)), term(api.Then, then), term(api.Then, then, then), term(api.Union, union, union),
		term(api.Union, then, then), term(api.Then, union, filter(yes()), union), term(api.Union, filter(no())), term(api.Then, filter(no()), then), term(api.Then, filter(yes())),
		term(api.Union, star(union), star(union)), term(api.Union, filter(and), filter(and)),
	} {
		wantOwn(t, policyOf(pol))
		wantOwn(t, policyOf(pol, query("a", and), query("b", or), query("c", and)))
	}
	m := maker{rand.New(rand.NewSource(3))}
	for range 3000 {
		wantOwn(t, m.policy(m.Intn(5)))
	}
}

// R3: lists that are shared within a policy are not shared within its plain form.
func TestPlainOfShared(t *testing.T) {
	kids := []api.Term{is(api.Port, 1), is(api.To, 2), is(api.To, 3)}
	pols := []api.Term{set(api.Port, 1), filter(term(api.Or, kids...)), set(api.Port, 2)}
	p := policyOf(term(api.Union, star(term(api.Then, pols...)), star(term(api.Then, pols[:2]...)), filter(term(api.And, kids...)), filter(term(api.Or, kids[:2]...))),
		query("a", not(term(api.And, kids...))), query("b", term(api.And, kids...)), query("c", term(api.Or, kids[1:]...)))
	made, e := Plain(p)
	if e != api.OK || !samePolicy(made, p) {
		t.Fatalf("%v, %v", made, e)
	}
	if !isApart(lists(made)) {
		t.Error("two lists of the answer share memory")
	}
	if again, e := Plain(p); e != api.OK || !samePolicy(again, p) || kids[0].Op != api.Is || pols[0].Op != api.Set {
		t.Errorf("the policy was changed: %v, %v", again, e)
	}
}

// R2, R3: no answer hangs on who asks at the same time, and nothing that is
// handed in is changed.
func TestAnswersAlone(t *testing.T) {
	want, err := parse.Policy("(filter port=1 & !!(to=0.0.0.2 & true) ; src:=00:00:00:00:00:01 + id)* ; id count a = port=1 | (to=0.0.0.2 | false) count b = true")
	if err != nil {
		t.Fatal(err)
	}
	made, err := parse.Policy("(filter port=1 & to=0.0.0.2 ; src:=00:00:00:00:00:01 + id)* count a = port=1 | to=0.0.0.2 count b = true")
	if err != nil {
		t.Fatal(err)
	}
	p := roomyPolicy(want)
	var group sync.WaitGroup
	for range 8 {
		group.Go(func() {
			wantPolicy(t, p, made)
			wantError(t, p, api.OK, "a policy")
			wantPred(t, p.Queries[0].Pred, api.OK, "a predicate")
		})
	}
	group.Wait()
	if !samePolicy(p, want) || !isRoomyPolicy(p) {
		t.Error("the policy was changed")
	}
	p.Main.Op = 99
	wantError(t, p, api.ErrPolicy, "a changed one")
	wantError(t, want, api.OK, "the first one")
}
