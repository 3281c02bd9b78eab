package policy

import (
	"maps"
	"math/rand"
	"slices"
	"strconv"
	"testing"

	"tollbridge/api"
	"tollbridge/parse"
)

// wantPolicy asks for a plain form, and that it is its own.
func wantPolicy(t *testing.T, p, want api.Policy) {
	t.Helper()
	for _, from := range []api.Policy{p, want} {
		if got, e := Plain(from); e != api.OK || !samePolicy(got, want) {
			t.Errorf("Plain of %v: %v, %v, want %v", from, got, e, want)
		}
	}
}

func wantPlain(t *testing.T, main, want api.Term) {
	t.Helper()
	wantPolicy(t, policyOf(main), policyOf(want))
}

// wantPlainPred asks for a predicate's plain form in a Filter and in queries.
func wantPlainPred(t *testing.T, pred, want api.Term) {
	t.Helper()
	wantPlain(t, filter(pred), filter(want))
	id := filter(yes())
	wantPolicy(t, policyOf(id, query("a", pred), query("b", yes())), policyOf(id, query("a", want), query("b", yes())))
	wantPolicy(t, policyOf(id, query("b", no()), query("a", pred)), policyOf(id, query("b", no()), query("a", want)))
}

// P18.2: the rows of Not, And and Or.
func TestPlainPredicates(t *testing.T) {
	a, b, c, d := is(api.Port, 1), is(api.To, 2), is(api.Kind, 3), is(api.Switch, 0)
	for _, x := range []api.Term{no(), yes(), a, not(a), term(api.And, a, b), term(api.Or, a, b), term(api.And, term(api.Or, a, b), not(term(api.And, a, a)))} {
		wantPlainPred(t, x, x)
		wantPlainPred(t, not(not(x)), x)
		wantPlainPred(t, not(not(not(not(x)))), x)
		wantPlainPred(t, term(api.And, x), x)
		wantPlainPred(t, term(api.Or, term(api.And, term(api.Or, x))), x)
	}
	wantPlainPred(t, not(yes()), no())
	wantPlainPred(t, not(no()), yes())
	wantPlainPred(t, not(not(not(a))), not(a))
	wantPlainPred(t, not(term(api.And, not(a))), a)
	wantPlainPred(t, not(term(api.Or, no(), yes())), no())
	for _, r := range []struct{ op, other, idle, ends int8 }{{api.And, api.Or, api.Yes, api.No}, {api.Or, api.And, api.No, api.Yes}} {
		of := func(kids ...api.Term) api.Term { return term(r.op, kids...) }
		other := func(kids ...api.Term) api.Term { return term(r.other, kids...) }
		idle, ends := api.Term{Op: r.idle}, api.Term{Op: r.ends}
		wantPlainPred(t, of(a, a), of(a, a))
		wantPlainPred(t, of(b, a, b), of(b, a, b))
		wantPlainPred(t, of(a, of(b, c), d), of(a, b, c, d))
		wantPlainPred(t, of(of(of(a, b), c), of(d)), of(a, b, c, d))
		wantPlainPred(t, of(of(d, of(c, of(b, a)))), of(d, c, b, a))
		wantPlainPred(t, of(a, other(b, c)), of(a, other(b, c)))
		wantPlainPred(t, of(a, other(of(b, c))), of(a, b, c))
		wantPlainPred(t, of(a, other(of(b, c), ends)), of(a, b, c))
		wantPlainPred(t, of(a, other(of(b, c), idle)), a)
		wantPlainPred(t, of(a, not(not(of(b, c)))), of(a, b, c))
		wantPlainPred(t, of(idle), idle)
		wantPlainPred(t, of(idle, idle, of(idle, idle)), idle)
		wantPlainPred(t, of(idle, a, idle), a)
		wantPlainPred(t, of(idle, a, of(idle, b), idle), of(a, b))
		wantPlainPred(t, of(ends), ends)
		wantPlainPred(t, of(ends, idle), ends)
		wantPlainPred(t, of(a, b, ends, c), ends)
		wantPlainPred(t, of(a, of(b, of(c, ends))), ends)
		wantPlainPred(t, of(a, not(idle)), ends)
		wantPlainPred(t, of(a, not(ends)), a)
		wantPlainPred(t, other(of(a, ends), b), b)
	}
}

// P18.2: the rows of Union, Then and Star, and Filter, which stays.
func TestPlainPolicies(t *testing.T) {
	a, b, c, d := set(api.Port, 1), filter(is(api.To, 2)), set(api.Src, 0), star(set(api.Port, 4))
	id, drop := filter(yes()), filter(no())
	for _, x := range []api.Term{a, b, d, id, drop, term(api.Union, a, b), term(api.Then, a, b), term(api.Then, a, term(api.Union, a, a), star(term(api.Union, id, a)))} {
		wantPlain(t, x, x)
		wantPlain(t, term(api.Union, x), x)
		wantPlain(t, term(api.Then, term(api.Union, term(api.Then, x))), x)
		if x.Op != api.Filter && x.Op != api.Star {
			wantPlain(t, star(x), star(x))
			wantPlain(t, star(star(star(x))), star(x))
		}
		wantPlain(t, star(filter(is(api.Dst, 1))), id)
	}
	for _, r := range []struct {
		op, other  int8
		idle, lone api.Term
	}{{api.Union, api.Then, drop, id}, {api.Then, api.Union, id, drop}} {
		of := func(kids ...api.Term) api.Term { return term(r.op, kids...) }
		other := func(kids ...api.Term) api.Term { return term(r.other, kids...) }
		wantPlain(t, of(a, a), of(a, a))
		wantPlain(t, of(b, a, b), of(b, a, b))
		wantPlain(t, of(a, of(b, c), d), of(a, b, c, d))
		wantPlain(t, of(of(of(a, b), c), of(d)), of(a, b, c, d))
		wantPlain(t, of(of(d, of(c, of(b, a)))), of(d, c, b, a))
		wantPlain(t, of(a, other(b, c)), of(a, other(b, c)))
		wantPlain(t, of(a, other(of(b, c))), of(a, b, c))
		wantPlain(t, of(r.idle), r.idle)
		wantPlain(t, of(r.idle, r.idle, of(r.idle, r.idle)), r.idle)
		wantPlain(t, of(r.idle, a, r.idle), a)
		wantPlain(t, of(r.idle, a, of(r.idle, b), r.idle), of(a, b))
		wantPlain(t, of(r.lone), r.lone)
		wantPlain(t, star(of(r.idle, r.idle)), id)
		wantPlain(t, star(of(r.idle, star(a))), star(a))
		wantPlain(t, star(of(r.idle, b)), id)
		wantPlain(t, star(of(b, b)), star(of(b, b)))
	}
	wantPlain(t, term(api.Union, a, id, b), term(api.Union, a, id, b))
	wantPlain(t, term(api.Union, id, id), term(api.Union, id, id))
	wantPlain(t, term(api.Then, a, drop, b), drop)
	wantPlain(t, term(api.Then, a, term(api.Then, b, term(api.Then, drop))), drop)
	wantPlain(t, term(api.Union, term(api.Then, a, drop), b), b)
	wantPlain(t, term(api.Then, a, filter(not(yes()))), drop)
	wantPlain(t, term(api.Then, a, filter(term(api.Or, b.Kids[0], yes()))), a)
	wantPlain(t, term(api.Then, a, star(drop), b), term(api.Then, a, b))
	wantPlain(t, filter(term(api.And, yes(), yes())), id)
	wantPlain(t, filter(term(api.Or, no(), no())), drop)
}

// P18.2: texts as they are read.
func TestPlainTexts(t *testing.T) {
	for text, want := range map[string]string{
		"id":                                                         "id",
		"filter port = 1 ; port := 2":                                "filter port = 1 ; port := 2",
		"if port = 1 then id else drop":                              "filter port = 1",
		"if true then port := 1 else port := 2":                      "port := 1",
		"if false then port := 1 else port := 2":                     "port := 2",
		"if !port=1 then port := 1 else port := 2":                   "filter !port=1 ; port := 1 + filter port=1 ; port := 2",
		"(id)* + (drop)*":                                            "id + id",
		"((port := 1)* ; id)* + drop":                                "(port := 1)*",
		"(port:=1 ; port:=2) ; (port:=3 ; (port:=4))":                "port:=1 ; port:=2 ; port:=3 ; port:=4",
		"drop count a = !!true & port=1 count b = !(false | false)":  "drop count a = port=1 count b = true",
		"id + (id + drop ; port:=1) count a = (to=1 | to=2) | false": "id + id count a = to=1 | to=2",
	} {
		p, err := parse.Policy(text)
		if err != nil {
			t.Fatal(text, err)
		}
		made, err := parse.Policy(want)
		if err != nil {
			t.Fatal(want, err)
		}
		wantPolicy(t, p, made)
	}
}

// toldPlain is a term's plain form, each row of the table told by itself, from
// the first kid on.
func toldPlain(t api.Term) api.Term {
	isOf := func(x api.Term, op int8) bool { return x.Op == api.Filter && x.Kids[0].Op == op }
	var kids []api.Term
	for _, kid := range t.Kids {
		if kid = toldPlain(kid); kid.Op == t.Op && t.Op != api.Not && t.Op != api.Star {
			kids = append(kids, kid.Kids...)
		} else {
			kids = append(kids, kid)
		}
	}
	without := func(isLeftOut func(api.Term) bool) { kids = slices.DeleteFunc(kids, isLeftOut) }
	has := func(isMeant func(api.Term) bool) bool { return slices.ContainsFunc(kids, isMeant) }
	isYes, isNo := func(x api.Term) bool { return x.Op == api.Yes }, func(x api.Term) bool { return x.Op == api.No }
	isID, isDrop := func(x api.Term) bool { return isOf(x, api.Yes) }, func(x api.Term) bool { return isOf(x, api.No) }
	none := api.Term{}
	switch {
	case t.Op == api.Not && kids[0].Op == api.Not:
		return kids[0].Kids[0]
	case t.Op == api.Not && has(isYes), t.Op == api.And && has(isNo):
		return no()
	case t.Op == api.Not && has(isNo), t.Op == api.Or && has(isYes):
		return yes()
	case t.Op == api.Then && has(isDrop):
		return filter(no())
	case t.Op == api.Star && kids[0].Op == api.Star:
		return kids[0]
	case t.Op == api.Star && kids[0].Op == api.Filter:
		return filter(yes())
	case t.Op == api.And:
		none = yes()
		without(isYes)
	case t.Op == api.Or:
		none = no()
		without(isNo)
	case t.Op == api.Union:
		none = filter(no())
		without(isDrop)
	case t.Op == api.Then:
		none = filter(yes())
		without(isID)
	default:
		return api.Term{Op: t.Op, Field: t.Field, N: t.N, Kids: kids}
	}
	if len(kids) == 0 {
		return none
	}
	if len(kids) == 1 {
		return kids[0]
	}
	return api.Term{Op: t.Op, Kids: kids}
}

// holds is chapter 19's predicate.
func holds(t api.Term, h api.Header) bool {
	switch t.Op {
	case api.Yes:
		return true
	case api.Is:
		return h[t.Field] == t.N
	case api.Not:
		return !holds(t.Kids[0], h)
	case api.And:
		return !slices.ContainsFunc(t.Kids, func(kid api.Term) bool { return !holds(kid, h) })
	case api.Or:
		return slices.ContainsFunc(t.Kids, func(kid api.Term) bool { return holds(kid, h) })
	}
	return false
}

type headers map[api.Header]bool

// means is chapter 19's set, without its bounds.
func means(t api.Term, h api.Header) headers {
	made := headers{}
	switch t.Op {
	case api.Filter:
		if holds(t.Kids[0], h) {
			made[h] = true
		}
	case api.Set:
		h[t.Field] = t.N
		made[h] = true
	case api.Union:
		for _, kid := range t.Kids {
			maps.Copy(made, means(kid, h))
		}
	case api.Then:
		made[h] = true
		for _, kid := range t.Kids {
			made = meansOfAll(kid, made)
		}
	case api.Star:
		made[h] = true
		for size := 0; size < len(made); {
			size = len(made)
			maps.Copy(made, meansOfAll(t.Kids[0], made))
		}
	}
	return made
}

func meansOfAll(t api.Term, ahead headers) headers {
	made := headers{}
	for h := range ahead {
		maps.Copy(made, means(t, h))
	}
	return made
}

// narrow keeps to two fields and few numbers, so that tests and settings meet.
func (m maker) narrow(p api.Policy) api.Policy {
	for _, x := range spots(&p) {
		if x.Op == api.Is || x.Op == api.Set {
			x.Field, x.N = []int8{api.Port, api.To}[m.Intn(2)], uint64(1+m.Intn(2))
		}
	}
	return p
}

// isPlainForm tells whether no row of the table would change a term any more.
func isPlainForm(t api.Term) bool {
	if slices.ContainsFunc(t.Kids, func(kid api.Term) bool { return !isPlainForm(kid) }) {
		return false
	}
	without := func(ops ...int8) bool {
		return !slices.ContainsFunc(t.Kids, func(kid api.Term) bool { return slices.Contains(ops, kid.Op) })
	}
	filtersNone := func(ops ...int8) bool {
		return !slices.ContainsFunc(t.Kids, func(kid api.Term) bool { return kid.Op == api.Filter && slices.Contains(ops, kid.Kids[0].Op) })
	}
	switch t.Op {
	case api.Not:
		return without(api.Not, api.Yes, api.No)
	case api.And, api.Or:
		return len(t.Kids) > 1 && without(t.Op, api.Yes, api.No)
	case api.Union:
		return len(t.Kids) > 1 && without(api.Union) && filtersNone(api.No)
	case api.Then:
		return len(t.Kids) > 1 && without(api.Then) && filtersNone(api.No, api.Yes)
	case api.Star:
		return without(api.Star, api.Filter)
	}
	return true
}

func wantAlike(t *testing.T, p, made api.Policy) {
	t.Helper()
	for port := range uint64(4) {
		for to := range uint64(4) {
			h := api.Header{api.Kind: 0x800, api.Port: port, api.To: to}
			if want, got := means(p.Main, h), means(made.Main, h); !maps.Equal(got, want) {
				t.Errorf("%v makes %v of %v, %v makes %v", p.Main, want, h, made.Main, got)
			}
			for i, q := range p.Queries {
				if holds(q.Pred, h) != holds(made.Queries[i].Pred, h) {
					t.Errorf("%v and %v: one alone holds of %v", q.Pred, made.Queries[i].Pred, h)
				}
			}
		}
	}
}

// P18.2, P18.3: policies made at random have the table's plain form, which means
// the same, is its own, and has no more terms.
func TestPlainAtRandom(t *testing.T) {
	m := maker{rand.New(rand.NewSource(183))}
	shorter, same := 0, 0
	for i := range 20000 {
		p := m.policy(m.Intn(5))
		if i%2 == 0 {
			p = m.narrow(p)
		}
		if Check(p) != api.OK {
			t.Fatal(p)
		}
		want := policyOf(toldPlain(p.Main))
		for _, q := range p.Queries {
			want.Queries = append(want.Queries, query(q.Name, toldPlain(q.Pred)))
		}
		made, _ := Plain(p)
		wantPolicy(t, p, want)
		if !isPlainForm(made.Main) || slices.ContainsFunc(made.Queries, func(q api.Query) bool { return !isPlainForm(q.Pred) }) {
			t.Errorf("%v is not plain", made)
		}
		if allTerms(made) > allTerms(p) || allDepth(made) > allDepth(p) {
			t.Errorf("%v is greater than %v", made, p)
		}
		if i%10 == 0 {
			wantAlike(t, p, made)
		}
		if allTerms(made) < allTerms(p) {
			shorter++
		} else {
			same++
		}
	}
	if shorter < 5000 || same < 2000 {
		t.Errorf("%d policies got shorter, %d not: too few to tell", shorter, same)
	}
}

// P18.2: the greatest and the deepest policies that Check takes have a plain form.
func TestPlainOfBig(t *testing.T) {
	one, id := set(api.Port, 1), filter(yes())
	full := term(api.Union, repeated(4095, one)...)
	wantPlain(t, full, full)
	wantPlain(t, term(api.Then, repeated(2047, id)...), id)
	wantPlain(t, nested(127, one, star), star(one))
	wantPlain(t, nested(126, one, func(kid api.Term) api.Term { return term(api.Union, kid, one) }), term(api.Union, repeated(127, one)...))
	wantPlain(t, filter(nested(126, is(api.Port, 0), not)), filter(is(api.Port, 0)))
	wantPlain(t, filter(nested(125, is(api.Port, 0), not)), filter(not(is(api.Port, 0))))
	wide := nested(126, one, func(kid api.Term) api.Term { return term(api.Then, append(repeated(31, one), kid)...) })
	wantPlain(t, wide, term(api.Then, repeated(126*31+1, one)...))
	p := policyOf(id)
	for i := range api.MaxQueries {
		p.Queries = append(p.Queries, query("q"+strconv.Itoa(i), is(api.Port, uint64(i))))
	}
	wantPolicy(t, p, p)
}
