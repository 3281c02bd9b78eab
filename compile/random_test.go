package compile

import (
	"math/rand"
	"reflect"
	"slices"
	"testing"

	"tollbridge/api"
	"tollbridge/meaning"
	"tollbridge/nodes"
	"tollbridge/policy"
)

// maker makes terms by chance, of a few fields and numbers.
type maker struct {
	*rand.Rand
	fields []int8
	top    uint64 // numbers are from 1 to this one
	tests  []api.Term
}

func newMaker(seed int) maker {
	fields := [][]int8{{api.Port, api.To}, {api.Src, api.Port, api.DPort}, {api.Port}, {api.Src, api.Dst, api.From, api.To}}[seed%4]
	m := maker{rand.New(rand.NewSource(int64(seed))), fields, 1 + uint64(seed/4%3), nil}
	for range 6 {
		m.tests = append(m.tests, is(m.field(), m.number()))
	}
	return m
}

func (m maker) field() int8 { return m.fields[m.Intn(len(m.fields))] }

func (m maker) number() uint64 { return 1 + m.Uint64()%m.top }

// kids have so many terms together, or a few less.
func (m maker) kids(op int8, n int, made func(n int) api.Term) api.Term {
	t := of(op)
	for n > 0 {
		most := 1 + m.Intn(n)
		t.Kids = append(t.Kids, made(most))
		n -= most
	}
	return t
}

func (m maker) pred(n int) api.Term {
	switch op := int8(m.Intn(6)); {
	case op == api.Not && n > 1:
		return not(m.pred(n - 1))
	case op > api.Not && n > 1:
		return m.kids(op, n-1, m.pred)
	case op <= api.Yes && m.Intn(4) == 0:
		return of(op)
	}
	return m.tests[m.Intn(len(m.tests))]
}

func (m maker) pol(n int) api.Term {
	switch op := int8(api.Filter + m.Intn(5)); {
	case n < 2 || op == api.Set && n < 6:
		return set(m.field(), m.number())
	case op == api.Filter && n < 9:
		return filter(m.pred(n - 1))
	case op == api.Star:
		return star(m.pol(n - 1))
	case m.Intn(2) == 0:
		return m.kids(api.Union, n-1, m.pol)
	}
	return m.kids(api.Then, n-1, m.pol)
}

// headers are one for each that a maker's terms can tell from others: each field has
// each number, and one that no term names.
func (m maker) headers() []api.Header {
	all := []api.Header{{api.Switch: 3}}
	for _, field := range m.fields {
		var more []api.Header
		for _, h := range all {
			for n := uint64(1); n <= m.top+1; n++ {
				h[field] = n
				more = append(more, h)
			}
		}
		all = more
	}
	return all
}

// tally counts what a random test came by.
type tally struct {
	terms, tooBig, meant, unmeant, none, many, apart int
}

// hold holds a node against the term's meaning.
func (c *tally) hold(t *testing.T, s *nodes.Store, node int, term api.Term, headers []api.Header) {
	t.Helper()
	for _, h := range headers {
		want, e := meaning.Of(term, h)
		if e != api.OK {
			c.unmeant++
			continue
		}
		c.meant++
		if list := run(t, s, node, h); !slices.Equal(list, want) {
			t.Fatalf("%v of %v: %v, want %v", term, h, list, want)
		}
		switch len(want) {
		case 0:
			c.none++
		case 1:
		default:
			c.many++
		}
	}
}

// P22.1 to P22.3, P22.5: terms of at most 30 terms and 6 unlike tests are taken, and
// are what they mean.
func TestSmall(t *testing.T) {
	var c tally
	for seed := range 24 {
		m, s := newMaker(seed), nodes.New()
		fill(t, s, api.MaxNodes-1<<14+200) // the rest is for what is made
		headers := m.headers()
		ahead := nodesOf(s)
		for range 40 {
			term := m.pol(1 + m.Intn(30))
			if s.Len() > 1<<14 {
				break
			}
			c.terms++
			node, e := Of(s, term)
			if e != api.OK {
				t.Fatal(e, term)
			}
			c.hold(t, s, node, term, headers)
			if again := compiled(t, s, term); again != node {
				c.apart++
			}
		}
		if now := nodesOf(s); !reflect.DeepEqual(now[:len(ahead)], ahead) {
			t.Error("nodes that were there ahead were changed")
		}
	}
	if c.terms < 700 || c.meant < 20000 || c.none < 3000 || c.many < 3000 || c.apart > 0 {
		t.Errorf("too few to tell: %+v", c)
	}
}

func nodesOf(s *nodes.Store) []api.Node {
	var all []api.Node
	for id := range s.Len() {
		node, _ := s.Get(id)
		all = append(all, node)
	}
	return all
}

// P22.1: greater terms are what they mean, too.
func TestGreat(t *testing.T) {
	var c tally
	for seed := range 60 {
		m := newMaker(seed)
		headers := m.headers()
		for range 8 {
			s, term := nodes.New(), m.pol(40+m.Intn(100))
			c.terms++
			node, e := Of(s, term)
			if e != api.OK {
				c.tooBig++
				continue
			}
			for range 6 {
				at := m.Intn(len(headers))
				c.hold(t, s, node, term, headers[at:at+1])
			}
		}
	}
	if c.tooBig > c.terms/10 || c.meant < 2000 || c.none < 100 || c.many < 500 {
		t.Errorf("too few to tell: %+v", c)
	}
}

// P22.4: a term and its plain form do the same.
func TestPlain(t *testing.T) {
	var unlike, asked int
	for seed := range 40 {
		m, s := newMaker(seed), nodes.New()
		for range 10 {
			term := m.pol(1 + m.Intn(60))
			plain, e := policy.Plain(api.Policy{Main: term})
			if e != api.OK {
				t.Fatal(e, term)
			}
			if !reflect.DeepEqual(plain.Main, term) {
				unlike++
			}
			a, b := compiled(t, s, term), compiled(t, s, plain.Main)
			for _, h := range m.headers() {
				asked++
				wantRun(t, s, b, h, run(t, s, a, h)...)
			}
		}
	}
	if unlike < 200 || asked < 8000 {
		t.Error("too few to tell:", unlike, asked)
	}
}
