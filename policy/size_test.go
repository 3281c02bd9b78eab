package policy

import (
	"strconv"
	"testing"

	"tollbridge/api"
)

func repeated(n int, t api.Term) []api.Term {
	kids := make([]api.Term, n)
	for i := range kids {
		kids[i] = t
	}
	return kids
}

func terms(t api.Term) int {
	n := 1
	for _, kid := range t.Kids {
		n += terms(kid)
	}
	return n
}

func depth(t api.Term) int {
	deepest := 0
	for _, kid := range t.Kids {
		deepest = max(deepest, depth(kid))
	}
	return 1 + deepest
}

func allTerms(p api.Policy) int {
	n := terms(p.Main)
	for _, q := range p.Queries {
		n += terms(q.Pred)
	}
	return n
}

func allDepth(p api.Policy) int {
	n := depth(p.Main)
	for _, q := range p.Queries {
		n = max(n, depth(q.Pred))
	}
	return n
}

// wantSizes asks at both sides of a bound.
func wantSizes(t *testing.T, what string, least, most int, made func(n int) api.Policy) {
	t.Helper()
	tooBig := 0
	for n := least; n <= most; n++ {
		p := made(n)
		many, deep := allTerms(p), allDepth(p)
		want := api.OK
		if many > api.MaxTerms || deep > api.MaxDepth {
			want = api.ErrTooBig
			tooBig++
		}
		wantError(t, p, want, what+": "+strconv.Itoa(many)+" terms, "+strconv.Itoa(deep)+" deep")
	}
	if tooBig == 0 || tooBig > most-least {
		t.Errorf("%s: %d of %d are too big: the bound does not lie there", what, tooBig, most-least+1)
	}
}

// wantPredSizes asks at both sides of a bound, of a predicate alone.
func wantPredSizes(t *testing.T, what string, least, most int, made func(n int) api.Term) {
	t.Helper()
	tooBig := 0
	for n := least; n <= most; n++ {
		x := made(n)
		want := api.OK
		if terms(x) > api.MaxTerms || depth(x) > api.MaxDepth {
			want = api.ErrTooBig
			tooBig++
		}
		wantPred(t, x, want, what+": "+strconv.Itoa(terms(x))+" terms, "+strconv.Itoa(depth(x))+" deep")
	}
	if tooBig == 0 || tooBig > most-least {
		t.Errorf("%s: %d of %d are too big: the bound does not lie there", what, tooBig, most-least+1)
	}
}

// P18.1: at most MaxTerms terms, by each Op that has many Kids, and all together.
func TestManyTerms(t *testing.T) {
	one, id := set(api.Port, 1), filter(yes())
	for _, op := range []int8{api.Union, api.Then} {
		wantSizes(t, "Sets", 4090, 4100, func(n int) api.Policy { return policyOf(term(op, repeated(n, one)...)) })
		wantSizes(t, "Filters", 2040, 2055, func(n int) api.Policy { return policyOf(term(op, repeated(n, id)...)) })
		wantSizes(t, "Stars", 2040, 2055, func(n int) api.Policy { return policyOf(term(op, repeated(n, star(one))...)) })
	}
	for _, op := range []int8{api.And, api.Or} {
		wantSizes(t, "predicates", 4090, 4100, func(n int) api.Policy { return policyOf(filter(term(op, repeated(n, yes())...))) })
		wantSizes(t, "a query", 4090, 4100, func(n int) api.Policy { return policyOf(id, query("q", term(op, repeated(n, no())...))) })
		wantSizes(t, "Nots", 2040, 2055, func(n int) api.Policy { return policyOf(id, query("q", term(op, repeated(n, not(no()))...))) })
		wantPredSizes(t, "a predicate", 4090, 4100, func(n int) api.Term { return term(op, repeated(n, no())...) })
		wantPredSizes(t, "a predicate of Nots", 2040, 2055, func(n int) api.Term { return term(op, repeated(n, not(no()))...) })
	}
	for at := range api.MaxQueries {
		wantSizes(t, "all together", 3060, 3067, func(n int) api.Policy {
			p := policyOf(term(api.Union, repeated(1000, one)...))
			for i := range api.MaxQueries {
				pred := yes()
				if i == at {
					pred = term(api.Or, repeated(n, yes())...)
				}
				p.Queries = append(p.Queries, query("q"+strconv.Itoa(i), pred))
			}
			return p
		})
	}
}

// nested goes down by a way, so many times, to a last term.
func nested(n int, last api.Term, over func(kid api.Term) api.Term) api.Term {
	for range n {
		last = over(last)
	}
	return last
}

// P18.1: no deeper than MaxDepth, by each way down.
func TestDeepTerms(t *testing.T) {
	one, id := set(api.Port, 1), filter(yes())
	for what, over := range map[string]func(kid api.Term) api.Term{
		"Star":           star,
		"Union's one":    func(kid api.Term) api.Term { return term(api.Union, kid) },
		"Union's first":  func(kid api.Term) api.Term { return term(api.Union, kid, one) },
		"Union's last":   func(kid api.Term) api.Term { return term(api.Union, one, one, kid) },
		"Then's one":     func(kid api.Term) api.Term { return term(api.Then, kid) },
		"Then's first":   func(kid api.Term) api.Term { return term(api.Then, kid, one) },
		"Then's last":    func(kid api.Term) api.Term { return term(api.Then, one, id, kid) },
		"Star and Union": func(kid api.Term) api.Term { return star(term(api.Union, kid, one)) },
	} {
		wantSizes(t, what, 60, 135, func(n int) api.Policy { return policyOf(nested(n, one, over)) })
		wantSizes(t, what+" to a Filter", 60, 135, func(n int) api.Policy { return policyOf(nested(n, id, over)) })
	}
	for what, over := range map[string]func(kid api.Term) api.Term{
		"Not":         not,
		"And's one":   func(kid api.Term) api.Term { return term(api.And, kid) },
		"And's first": func(kid api.Term) api.Term { return term(api.And, kid, yes()) },
		"And's last":  func(kid api.Term) api.Term { return term(api.And, yes(), no(), kid) },
		"Or's one":    func(kid api.Term) api.Term { return term(api.Or, kid) },
		"Or's first":  func(kid api.Term) api.Term { return term(api.Or, kid, yes()) },
		"Or's last":   func(kid api.Term) api.Term { return term(api.Or, yes(), kid) },
		"Not and Or":  func(kid api.Term) api.Term { return not(term(api.Or, yes(), kid)) },
	} {
		wantSizes(t, what, 60, 135, func(n int) api.Policy { return policyOf(filter(nested(n, no(), over))) })
		wantSizes(t, what+" under Star", 60, 135, func(n int) api.Policy { return policyOf(star(filter(nested(n, no(), over)))) })
		wantSizes(t, what+" in a query", 60, 135, func(n int) api.Policy {
			return policyOf(id, query("a", yes()), query("b", nested(n, is(api.Port, 1), over)), query("c", no()))
		})
		wantPredSizes(t, what+" alone", 60, 135, func(n int) api.Term { return nested(n, is(api.Port, 1), over) })
	}
	wantError(t, policyOf(nested(126, id, star)), api.OK, "128 deep")
	wantError(t, policyOf(nested(127, id, star)), api.ErrTooBig, "129 deep")
	wantPred(t, nested(127, yes(), not), api.OK, "128 deep")
	wantPred(t, nested(128, yes(), not), api.ErrTooBig, "129 deep")
}

// P18.1: at most MaxQueries queries.
func TestManyQueries(t *testing.T) {
	p := policyOf(filter(no()))
	for n := 1; n <= 40; n++ {
		p.Queries = append(p.Queries, query("q"+strconv.Itoa(n), yes()))
		want := api.OK
		if n > api.MaxQueries {
			want = api.ErrTooBig
		}
		wantError(t, p, want, strconv.Itoa(n)+" queries")
	}
	p.Queries = make([]api.Query, 1<<20)
	wantError(t, p, api.ErrTooBig, "2^20 queries")
}

// P18.1, R5: what is too big is told ahead of what is none, wherever each stands.
func TestTooBigAheadOfNone(t *testing.T) {
	id, bad := filter(yes()), set(api.Vlan, 1)
	many, deep := term(api.Or, repeated(4096, yes())...), nested(128, no(), not)
	queries := func(n int) (list []api.Query) {
		for i := range n {
			list = append(list, query("q"+strconv.Itoa(i), yes()))
		}
		return list
	}
	for what, p := range map[string]api.Policy{
		"no Main, many queries":          policyOf(api.Term{}, queries(33)...),
		"a wrong Main, many queries":     policyOf(bad, queries(33)...),
		"names alike, many queries":      policyOf(id, append(queries(32), query("q7", yes()))...),
		"no names, many queries":         policyOf(id, make([]api.Query, 33)...),
		"a wrong Main, a query's terms":  policyOf(bad, query("q", many)),
		"a wrong Main, a query's depth":  policyOf(bad, query("q", deep)),
		"a wrong name, its terms":        policyOf(id, query("", many)),
		"a wrong name, another's depth":  policyOf(id, query("9", yes()), query("q", deep)),
		"names alike, the last's depth":  policyOf(id, query("q", yes()), query("q", yes()), query("r", deep)),
		"a predicate as Main, too deep":  policyOf(deep),
		"a predicate as Main, too many":  policyOf(many),
		"Kids of a Set, too many":        policyOf(api.Term{Op: api.Set, Field: api.Port, N: 1, Kids: repeated(4096, bad)}),
		"Kids of a No, too deep":         policyOf(filter(term(api.No, deep))),
		"Kids of a Yes in a query":       policyOf(id, query("q", term(api.Yes, many))),
		"Kids of no Op, too many":        policyOf(term(99, repeated(4096, term(-1))...)),
		"a wrong kid, the last too deep": policyOf(term(api.Then, bad, filter(deep))),
		"a wrong kid, a term too many":   policyOf(term(api.Then, repeated(4096, bad)...)),
		"a wrong kid behind a deep one":  policyOf(term(api.Union, filter(deep), bad)),
	} {
		wantError(t, p, api.ErrTooBig, what)
	}
	wantPred(t, star(filter(deep)), api.ErrTooBig, "a policy, too deep")
	wantPred(t, term(api.Not, many, many), api.ErrTooBig, "two Kids of Not, too many")
	wantPred(t, term(99, many), api.ErrTooBig, "no Op, too many")
	wantPred(t, term(api.No, repeated(4096, yes())...), api.ErrTooBig, "Kids of No, too many")
	wantError(t, policyOf(term(99, repeated(4095, term(-1))...)), api.ErrPolicy, "no Op, 4096 terms")
	wantPred(t, term(api.No, repeated(4095, yes())...), api.ErrPolicy, "Kids of No, 4096 terms")
}

// R1: lists that are shared, lie in themselves, or are very long end too.
func TestEndless(t *testing.T) {
	ring := make([]api.Term, 2)
	for _, op := range []int8{api.Union, api.Then, api.And, api.Or, api.No, api.Set, 99, -1} {
		ring[0], ring[1] = api.Term{Op: op, Kids: ring}, api.Term{Op: op, Kids: ring}
		wantError(t, policyOf(ring[0]), api.ErrTooBig, "a ring")
		wantError(t, policyOf(filter(ring[0]), query("q", ring[0])), api.ErrTooBig, "a ring in a Filter")
		wantError(t, policyOf(filter(yes()), query("q", ring[0])), api.ErrTooBig, "a ring in a query")
		wantPred(t, ring[0], api.ErrTooBig, "a ring")
	}
	for _, op := range []int8{api.Not, api.Filter, api.Star} {
		ring[0] = api.Term{Op: op, Kids: ring[:1]}
		wantError(t, policyOf(ring[0]), api.ErrTooBig, "a ring of one")
		wantPred(t, ring[0], api.ErrTooBig, "a ring of one")
	}
	one := set(api.Port, 1)
	shared := nested(100, one, func(kid api.Term) api.Term { return term(api.Union, kid, kid) })
	wantError(t, policyOf(shared), api.ErrTooBig, "2^100 terms")
	wantError(t, policyOf(term(api.Then, repeated(1<<20, one)...)), api.ErrTooBig, "2^20 Kids")
	wantPred(t, term(api.And, repeated(1<<20, yes())...), api.ErrTooBig, "2^20 Kids")
	wantError(t, policyOf(nested(1<<16, one, star)), api.ErrTooBig, "2^16 deep")
	wantPred(t, nested(1<<16, yes(), not), api.ErrTooBig, "2^16 deep")
}
