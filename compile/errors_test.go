package compile

import (
	"math"
	"reflect"
	"testing"

	"tollbridge/api"
	"tollbridge/nodes"
)

// deep is so deep a predicate.
func deep(n int) api.Term {
	t := is(api.Port, 1)
	for range n - 1 {
		t = not(t)
	}
	return t
}

// wide has so many terms.
func wide(op int8, kid api.Term, n int) api.Term {
	t := of(op)
	for range n - 1 {
		t.Kids = append(t.Kids, kid)
	}
	return t
}

// endless lies in itself.
func endless(op int8) api.Term {
	kids := make([]api.Term, 1)
	kids[0] = of(op, kids...)
	return kids[0]
}

// wantError asks of a store, which is not changed, and of none.
func wantError(t *testing.T, what string, term api.Term, want api.Errno) {
	t.Helper()
	s := nodes.New()
	compiled(t, s, step(api.Port, 1, 2))
	count := s.Len()
	if node, e := Of(s, term); node != 0 || e != want || s.Len() != count {
		t.Errorf("%s: %d, %v, and %d nodes, want %v", what, node, e, s.Len(), want)
	}
	if node, e := Of(nil, term); node != 0 || e != api.ErrNil {
		t.Errorf("%s, of a nil store: %d, %v", what, node, e)
	}
}

// P22.1, R5: a nil store is told ahead of what the term is.
func TestNil(t *testing.T) {
	for _, term := range []api.Term{{}, set(api.Port, 1), is(api.Vlan, 1), of(99), endless(api.Not), wide(api.Union, id(), 9000)} {
		if node, e := Of(nil, term); node != 0 || e != api.ErrNil {
			t.Error(node, e)
		}
	}
}

// P22.1: what is no term.
func TestNoTerm(t *testing.T) {
	for what, term := range map[string]api.Term{
		"an Op below all":          of(-1),
		"an Op above all":          of(api.Star + 1),
		"the least Op":             of(math.MinInt8),
		"the greatest Op":          of(math.MaxInt8),
		"No with a kid":            of(api.No, of(api.Yes)),
		"Yes with a field":         {Op: api.Yes, Field: 1},
		"Is of Vlan":               is(api.Vlan, 1),
		"Is of no field":           is(api.Fields, 1),
		"Is of a field below":      is(-1, 1),
		"Is past the width":        is(api.Proto, 256),
		"Not of none":              of(api.Not),
		"Not of two":               of(api.Not, of(api.Yes), of(api.Yes)),
		"Not of a policy":          not(id()),
		"And of none":              and(),
		"Or of none":               or(),
		"And of a policy":          and(of(api.Yes), id()),
		"Or with a number":         {Op: api.Or, N: 1, Kids: []api.Term{of(api.Yes)}},
		"Filter of none":           of(api.Filter),
		"Filter of a policy":       filter(id()),
		"Filter of a tag's test":   filter(not(is(api.Vlan, 0))),
		"Set of Kind":              set(api.Kind, 0x800),
		"Set of Vlan":              set(api.Vlan, 1),
		"Set of Proto":             set(api.Proto, 6),
		"Set of Switch":            set(api.Switch, 1),
		"Set of Port 0":            set(api.Port, 0),
		"Set past the width":       set(api.Port, 1<<16),
		"Set of no field":          set(api.Fields, 1),
		"Set of a field below":     set(-1, 1),
		"Set with a kid":           {Op: api.Set, Field: api.Port, N: 1, Kids: []api.Term{id()}},
		"Union of none":            union(),
		"Then of none":             then(),
		"Union of a predicate":     union(id(), of(api.Yes)),
		"Then of a predicate":      then(of(api.Yes), id()),
		"Star of none":             of(api.Star),
		"Star of two":              of(api.Star, id(), id()),
		"Star of a predicate":      star(of(api.Yes)),
		"a deep one":               star(union(id(), then(id(), set(api.Kind, 1)))),
		"a test behind what drops": then(drop(), filter(is(api.Vlan, 1))),
	} {
		wantError(t, what, term, api.ErrPolicy)
	}
}

// P22.1: terms that are too many, or too deep, are told ahead of what they are.
func TestTooMany(t *testing.T) {
	for what, term := range map[string]api.Term{
		"4097 terms of a predicate": wide(api.And, of(api.Yes), api.MaxTerms+1),
		"4097 terms of a policy":    wide(api.Then, set(api.Port, 1), api.MaxTerms+1),
		"4097 terms of none":        wide(99, of(99), api.MaxTerms+1),
		"129 deep":                  deep(api.MaxDepth + 1),
		"129 deep, a Filter":        filter(deep(api.MaxDepth)),
		"Not of itself":             endless(api.Not),
		"Star of itself":            endless(api.Star),
		"a Set of itself":           endless(api.Set),
		"none of itself":            endless(99),
	} {
		wantError(t, what, term, api.ErrTooBig)
	}
	s := nodes.New()
	compiled(t, s, wide(api.And, of(api.Yes), api.MaxTerms))
	compiled(t, s, wide(api.Then, set(api.Port, 1), api.MaxTerms))
	wantRun(t, s, compiled(t, s, deep(api.MaxDepth)), api.Header{}, api.Header{}) // 127 times turned about
	wantRun(t, s, compiled(t, s, filter(deep(api.MaxDepth-1))), api.Header{api.Port: 1}, api.Header{api.Port: 1})
	wantRun(t, s, compiled(t, s, filter(deep(api.MaxDepth-1))), api.Header{})
}

// R3: a term is not changed.
func TestTermStays(t *testing.T) {
	build := func() api.Term {
		return star(union(step(api.Port, 1, 2), then(filter(or(not(is(api.To, 3)), and(is(api.Src, 4)))), set(api.Dst, 5))))
	}
	term := build()
	s := nodes.New()
	node := compiled(t, s, term)
	if !reflect.DeepEqual(term, build()) {
		t.Error("the term was changed:", term)
	}
	kid := &term.Kids[0].Kids[0].Kids[1]
	*kid = set(api.Port, 7)
	wantRun(t, s, node, api.Header{api.Port: 1, api.To: 3}, api.Header{api.Port: 1, api.To: 3}, api.Header{api.Port: 2, api.To: 3})
}
