package show

import (
	"strconv"
	"strings"
	"testing"

	"tollbridge/api"
)

func repeated(n int, t api.Term) []api.Term {
	kids := make([]api.Term, n)
	for i := range kids {
		kids[i] = t
	}
	return kids
}

func terms(t api.Term) int {
	n := 1
	for _, kid := range t.Kids {
		n += terms(kid)
	}
	return n
}

func depth(t api.Term) int {
	deepest := 0
	for _, kid := range t.Kids {
		deepest = max(deepest, depth(kid))
	}
	return 1 + deepest
}

// wantSize asks for ErrPolicy just if the policy has too many terms or one too
// deep, and tells whether it had.
func wantSize(t *testing.T, p api.Policy) bool {
	t.Helper()
	many, deep := terms(p.Main), depth(p.Main)
	for _, q := range p.Queries {
		many += terms(q.Pred)
		deep = max(deep, depth(q.Pred))
	}
	what := strconv.Itoa(many) + " terms, " + strconv.Itoa(deep) + " deep"
	if many > api.MaxTerms || deep > api.MaxDepth {
		wantError(t, p, api.ErrPolicy, what)
		return true
	}
	text, e := Text(p)
	if e != api.OK {
		t.Errorf("%s: %v", what, e)
		return false
	}
	wantBack(t, p, text)
	return false
}

// wantSizes asks at both sides of a bound.
func wantSizes(t *testing.T, what string, least, most int, made func(n int) api.Policy) {
	t.Helper()
	refused := 0
	for n := least; n <= most; n++ {
		if wantSize(t, made(n)) {
			refused++
		}
	}
	if refused == 0 || refused > most-least {
		t.Errorf("%s: %d of %d are too big: the bound does not lie there", what, refused, most-least+1)
	}
}

// P17.1: at most MaxTerms terms, by each Op that has many kids, and all together.
func TestManyTerms(t *testing.T) {
	one, id := set(api.Port, 1), filter(yes())
	for _, op := range []int8{api.Union, api.Then} {
		wantSizes(t, "Sets", 4090, 4100, func(n int) api.Policy { return policyOf(term(op, repeated(n, one)...)) })
		wantSizes(t, "Filters", 2040, 2055, func(n int) api.Policy { return policyOf(term(op, repeated(n, id)...)) })
		wantSizes(t, "Stars", 2040, 2055, func(n int) api.Policy { return policyOf(term(op, repeated(n, star(one))...)) })
	}
	for _, op := range []int8{api.And, api.Or} {
		wantSizes(t, "predicates", 4090, 4100, func(n int) api.Policy { return policyOf(filter(term(op, repeated(n, yes())...))) })
		wantSizes(t, "a query", 4090, 4100, func(n int) api.Policy { return policyOf(id, query("q", term(op, repeated(n, no())...))) })
		wantSizes(t, "Nots", 2040, 2055, func(n int) api.Policy { return policyOf(id, query("q", term(op, repeated(n, not(no()))...))) })
	}
	for at := range api.MaxQueries {
		wantSizes(t, "all together", 3060, 3067, func(n int) api.Policy {
			p := policyOf(term(api.Union, repeated(1000, one)...))
			for i := range api.MaxQueries {
				pred := yes()
				if i == at {
					pred = term(api.Or, repeated(n, yes())...)
				}
				p.Queries = append(p.Queries, query("q", pred))
			}
			return p
		})
	}
}

// nested goes down by a way, so many times, to a last term.
func nested(n int, last api.Term, over func(kid api.Term) api.Term) api.Term {
	for range n {
		last = over(last)
	}
	return last
}

// P17.1: no deeper than MaxDepth, by each way down.
func TestDeepTerms(t *testing.T) {
	one, id := set(api.Port, 1), filter(yes())
	for what, over := range map[string]func(kid api.Term) api.Term{
		"Star":           star,
		"Union's first":  func(kid api.Term) api.Term { return term(api.Union, kid, one) },
		"Union's last":   func(kid api.Term) api.Term { return term(api.Union, one, one, kid) },
		"Then's first":   func(kid api.Term) api.Term { return term(api.Then, kid, one) },
		"Then's last":    func(kid api.Term) api.Term { return term(api.Then, one, id, kid) },
		"Star and Union": func(kid api.Term) api.Term { return star(term(api.Union, kid, one)) },
	} {
		wantSizes(t, what, 60, 135, func(n int) api.Policy { return policyOf(nested(n, one, over)) })
		wantSizes(t, what+" to a Filter", 60, 135, func(n int) api.Policy { return policyOf(nested(n, id, over)) })
	}
	for what, over := range map[string]func(kid api.Term) api.Term{
		"Not":         not,
		"And's first": func(kid api.Term) api.Term { return term(api.And, kid, yes()) },
		"And's last":  func(kid api.Term) api.Term { return term(api.And, yes(), no(), kid) },
		"Or's first":  func(kid api.Term) api.Term { return term(api.Or, kid, yes()) },
		"Or's last":   func(kid api.Term) api.Term { return term(api.Or, yes(), kid) },
		"Not and Or":  func(kid api.Term) api.Term { return not(term(api.Or, yes(), kid)) },
	} {
		wantSizes(t, what, 60, 135, func(n int) api.Policy { return policyOf(filter(nested(n, no(), over))) })
		wantSizes(t, what+" under Star", 60, 135, func(n int) api.Policy { return policyOf(star(filter(nested(n, no(), over)))) })
		wantSizes(t, what+" in a query", 60, 135, func(n int) api.Policy {
			return policyOf(id, query("a", yes()), query("b", nested(n, is(api.Port, 1), over)), query("c", no()))
		})
	}
}

// P17.1: at most MaxQueries queries.
func TestManyQueries(t *testing.T) {
	p := policyOf(filter(no()))
	want := "drop\n"
	for n := 1; n <= 40; n++ {
		name := "q" + strconv.Itoa(n)
		p.Queries = append(p.Queries, query(name, yes()))
		want += "count " + name + " = true\n"
		if n <= api.MaxQueries {
			wantText(t, p, want)
		} else {
			wantError(t, p, api.ErrPolicy, strconv.Itoa(n)+" queries")
		}
	}
	p.Queries = make([]api.Query, 1<<20)
	wantError(t, p, api.ErrPolicy, "2^20 queries")
}

// long is a policy whose text has so many bytes: 24 each of Sets with 3 between,
// and a query whose Name's length makes up the rest.
func long(bytes int) api.Policy {
	sets := (bytes - 15) / 27
	rest := bytes - (27*sets - 2) - 14
	return policyOf(term(api.Then, repeated(sets, set(api.Src, 1))...), query(strings.Repeat("n", rest), yes()))
}

// P17.1: a text has at most MaxText bytes.
func TestLongTexts(t *testing.T) {
	for bytes := 65000; bytes <= 66000; bytes++ {
		p := long(bytes)
		if bytes > api.MaxText {
			wantError(t, p, api.ErrLong, strconv.Itoa(bytes)+" bytes")
			continue
		}
		text, e := Text(p)
		if len(text) != bytes || e != api.OK {
			t.Fatalf("%d bytes, %v, want %d", len(text), e, bytes)
		}
		if bytes > api.MaxText-30 {
			wantBack(t, p, text)
		}
	}
	main := policyOf(term(api.Union, repeated(4095, set(api.Dst, 1<<48-1))...))
	wantError(t, main, api.ErrLong, "4095 Sets")
	wantError(t, policyOf(filter(term(api.Or, repeated(4094, is(api.To, 1<<32-1))...))), api.ErrLong, "4094 Ises")
	wantError(t, policyOf(filter(yes()), query("q", term(api.And, repeated(4093, is(api.Src, 0))...))), api.ErrLong, "4093 Ises of a query")
}

// P17.1: what is none is told ahead of what is too long.
func TestNoneAheadOfLong(t *testing.T) {
	p := long(api.MaxText + 1)
	wantError(t, p, api.ErrLong, "one byte too many")
	bad := policyOf(p.Main, p.Queries[0], query("id", yes()))
	wantError(t, bad, api.ErrPolicy, "a Name")
	bad = policyOf(p.Main, p.Queries[0], query("r", filter(yes())))
	wantError(t, bad, api.ErrPolicy, "a Pred")
	bad = policyOf(term(api.Then, append(repeated(3000, set(api.Src, 1)), set(api.Vlan, 4096))...))
	wantError(t, bad, api.ErrPolicy, "an N")
	bad = policyOf(term(api.Then, repeated(4096, set(api.Src, 1))...))
	wantError(t, bad, api.ErrPolicy, "a term too many")
	bad = policyOf(p.Main)
	for range api.MaxQueries + 1 {
		bad.Queries = append(bad.Queries, p.Queries[0])
	}
	wantError(t, bad, api.ErrPolicy, "a query too many")
}

// R1: lists that are shared, lie in themselves, or are very long end too.
func TestEndless(t *testing.T) {
	ring := make([]api.Term, 2)
	for _, op := range []int8{api.Union, api.Then} {
		ring[0], ring[1] = api.Term{Op: op, Kids: ring}, api.Term{Op: op, Kids: ring}
		wantError(t, policyOf(ring[0]), api.ErrPolicy, "a ring of policies")
	}
	for _, op := range []int8{api.And, api.Or} {
		ring[0], ring[1] = api.Term{Op: op, Kids: ring}, yes()
		wantError(t, policyOf(filter(ring[0]), query("q", ring[0])), api.ErrPolicy, "a ring of predicates")
	}
	for _, op := range []int8{api.Not, api.Filter, api.Star} {
		ring[0] = api.Term{Op: op, Kids: ring[:1]}
		wantError(t, policyOf(ring[0]), api.ErrPolicy, "a ring of one")
		wantError(t, policyOf(filter(ring[0])), api.ErrPolicy, "a ring of one")
	}
	shared := set(api.Port, 1)
	for range 100 {
		shared = term(api.Union, shared, shared)
	}
	wantError(t, policyOf(shared), api.ErrPolicy, "2^100 terms")
	wantError(t, policyOf(term(api.Then, repeated(1<<20, set(api.Port, 1))...)), api.ErrPolicy, "2^20 Kids")
	deep := nested(1<<16, set(api.Port, 1), star)
	wantError(t, policyOf(deep), api.ErrPolicy, "2^16 deep")
}
