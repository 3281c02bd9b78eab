package compile

import (
	"math"
	"slices"
	"testing"

	"tollbridge/api"
	"tollbridge/diagram"
	"tollbridge/meaning"
	"tollbridge/nodes"
)

var widths = [api.Fields]int{48, 48, 16, 12, 32, 32, 8, 16, 16, 16, 16}

func last(field int8) uint64 { return 1<<widths[field] - 1 }

func askable() []int8 {
	return []int8{api.Src, api.Dst, api.Kind, api.From, api.To, api.Proto, api.SPort, api.DPort, api.Port, api.Switch}
}

func settable() []int8 {
	return []int8{api.Src, api.Dst, api.From, api.To, api.SPort, api.DPort, api.Port}
}

func of(op int8, kids ...api.Term) api.Term { return api.Term{Op: op, Kids: kids} }

func is(field int8, n uint64) api.Term { return api.Term{Op: api.Is, Field: field, N: n} }

func set(field int8, n uint64) api.Term { return api.Term{Op: api.Set, Field: field, N: n} }

func filter(pred api.Term) api.Term { return of(api.Filter, pred) }

func not(pred api.Term) api.Term { return of(api.Not, pred) }

func and(kids ...api.Term) api.Term { return of(api.And, kids...) }

func or(kids ...api.Term) api.Term { return of(api.Or, kids...) }

func union(kids ...api.Term) api.Term { return of(api.Union, kids...) }

func then(kids ...api.Term) api.Term { return of(api.Then, kids...) }

func star(kid api.Term) api.Term { return of(api.Star, kid) }

func drop() api.Term { return filter(of(api.No)) }

func id() api.Term { return filter(of(api.Yes)) }

// step sets a field to one number, where it is another.
func step(field int8, from, to uint64) api.Term {
	return then(filter(is(field, from)), set(field, to))
}

// chain sets a field to the next number, where it is from 1 to n.
func chain(field int8, n uint64) api.Term {
	t := of(api.Union)
	for from := range n {
		t.Kids = append(t.Kids, step(field, from+1, from+2))
	}
	return t
}

// either does one thing where a predicate holds, and another where it does not.
func either(pred, yes, no api.Term) api.Term {
	return union(then(filter(pred), yes), then(filter(not(pred)), no))
}

// compiled is the node of a term that is taken.
func compiled(t *testing.T, s *nodes.Store, term api.Term) int {
	t.Helper()
	node, e := Of(s, term)
	if e != api.OK {
		t.Fatal(e, s.Len())
	}
	return node
}

func run(t *testing.T, s *nodes.Store, node int, h api.Header) []api.Header {
	t.Helper()
	list, e := diagram.Run(s, node, h)
	if e != api.OK {
		t.Fatal(e)
	}
	return list
}

func wantRun(t *testing.T, s *nodes.Store, node int, h api.Header, want ...api.Header) {
	t.Helper()
	if list := run(t, s, node, h); !slices.Equal(list, want) {
		t.Errorf("node %d of %v: %v, want %v", node, h, list, want)
	}
}

// wantMeant holds a term that is taken against its meaning.
func wantMeant(t *testing.T, term api.Term, headers ...api.Header) {
	t.Helper()
	s := nodes.New()
	node, pol := compiled(t, s, term), term
	if term.Op <= api.Or {
		pol = filter(term)
	}
	for _, h := range headers {
		want, e := meaning.Of(pol, h)
		if e != api.OK {
			t.Error("no meaning:", e)
		}
		wantRun(t, s, node, h, want...)
	}
}

// P22.1, P22.3, and the chapter's examples, and the document's.
func TestExamples(t *testing.T) {
	s := nodes.New()
	to5 := compiled(t, s, either(is(api.To, 5), set(api.Port, 1), drop()))
	wantRun(t, s, to5, api.Header{api.To: 5, api.Port: 3}, api.Header{api.To: 5, api.Port: 1})
	wantRun(t, s, to5, api.Header{api.To: 6, api.Port: 3})
	two := compiled(t, s, union(set(api.Port, 1), set(api.Port, 2)))
	wantRun(t, s, two, api.Header{api.Src: 9}, api.Header{api.Src: 9, api.Port: 1}, api.Header{api.Src: 9, api.Port: 2})
	same := compiled(t, s, star(then(set(api.Port, 1), filter(is(api.Port, 2)))))
	wantRun(t, s, same, api.Header{api.Port: 1}, api.Header{api.Port: 1})
	wantRun(t, s, same, api.Header{api.Port: 2}, api.Header{api.Port: 2})
	on := compiled(t, s, step(api.Port, 1, 2))
	wantRun(t, s, on, api.Header{api.Port: 1}, api.Header{api.Port: 2})
	wantRun(t, s, on, api.Header{api.Port: 2})
	three := compiled(t, s, star(union(step(api.Port, 1, 2), step(api.Port, 2, 3))))
	wantRun(t, s, three, api.Header{api.Port: 1}, api.Header{api.Port: 1}, api.Header{api.Port: 2}, api.Header{api.Port: 3})
	wantRun(t, s, three, api.Header{api.Port: 4}, api.Header{api.Port: 4})
	if node, e := Of(s, filter(is(api.Vlan, 1))); node != 0 || e != api.ErrPolicy {
		t.Error("a test of Vlan:", node, e)
	}
}

// P22.1, P22.3: each Op.
func TestOps(t *testing.T) {
	h := api.Header{api.Port: 1, api.To: 2, api.Kind: 0x800}
	at2, at3, none := h, h, []api.Header(nil)
	at2[api.Port], at3[api.Port] = 2, 3
	p1, p2, to2 := is(api.Port, 1), is(api.Port, 2), is(api.To, 2)
	for i, x := range []struct {
		t    api.Term
		want []api.Header
	}{
		{of(api.No), none}, {of(api.Yes), []api.Header{h}}, {p1, []api.Header{h}}, {p2, none}, {not(p1), none}, {not(p2), []api.Header{h}},
		{not(of(api.No)), []api.Header{h}}, {not(of(api.Yes)), none}, {not(not(p1)), []api.Header{h}},
		{and(p1), []api.Header{h}}, {and(p2), none}, {and(p1, to2), []api.Header{h}}, {and(p1, to2, p2), none}, {and(p2, p1), none}, {and(not(p2), of(api.Yes)), []api.Header{h}},
		{or(p1), []api.Header{h}}, {or(p2), none}, {or(p1, to2), []api.Header{h}}, {or(p2, p1), []api.Header{h}}, {or(p2, not(p1), not(to2)), none}, {or(of(api.No), p2, to2), []api.Header{h}},
		{filter(p1), []api.Header{h}}, {filter(or(p2, not(to2))), none}, {drop(), none}, {id(), []api.Header{h}},
		{set(api.Port, 2), []api.Header{at2}}, {set(api.Port, 1), []api.Header{h}},
		{union(set(api.Port, 2)), []api.Header{at2}}, {union(set(api.Port, 3), id(), set(api.Port, 2)), []api.Header{h, at2, at3}},
		{union(drop(), drop()), none}, {union(set(api.Port, 2), drop(), set(api.Port, 2)), []api.Header{at2}}, {union(set(api.Port, 1), id()), []api.Header{h}},
		{then(set(api.Port, 2)), []api.Header{at2}}, {then(set(api.Port, 2), set(api.Port, 3)), []api.Header{at3}}, {then(set(api.Port, 2), filter(p2)), []api.Header{at2}},
		{then(filter(p2), set(api.Port, 2)), none}, {then(set(api.Port, 2), filter(p1), set(api.Port, 3)), none}, {then(union(set(api.Port, 2), id()), step(api.Port, 2, 3)), []api.Header{at3}},
		{star(set(api.Port, 2)), []api.Header{h, at2}}, {star(drop()), []api.Header{h}}, {star(star(step(api.Port, 1, 2))), []api.Header{h, at2}},
		{star(union(step(api.Port, 2, 3), step(api.Port, 1, 2))), []api.Header{h, at2, at3}}, {then(star(chain(api.Port, 2)), filter(not(p2))), []api.Header{h, at3}},
	} {
		s := nodes.New()
		node := compiled(t, s, x.t)
		if list := run(t, s, node, h); !slices.Equal(list, x.want) {
			t.Errorf("%d: %v, want %v", i, list, x.want)
		}
		wantMeant(t, x.t, h, at2, at3, api.Header{}, api.Header{api.To: 2})
	}
}

// P22.1: a predicate is taken as its Filter is.
func TestPredicates(t *testing.T) {
	s := nodes.New()
	for _, pred := range []api.Term{of(api.No), of(api.Yes), is(api.To, 9), not(is(api.To, 9)), and(is(api.To, 9), is(api.Port, 1)), or(is(api.To, 9), is(api.Port, 1))} {
		a, b := compiled(t, s, pred), compiled(t, s, filter(pred))
		for _, h := range []api.Header{{}, {api.To: 9}, {api.Port: 1}, {api.To: 9, api.Port: 1}} {
			want := run(t, s, b, h)
			wantRun(t, s, a, h, want...)
			if meaning.Holds(pred, h) != (len(want) == 1) {
				t.Error(pred, h, want)
			}
		}
	}
}

// P22.1: numbers at the ends of the fields' widths.
func TestWidths(t *testing.T) {
	for _, field := range askable() {
		for _, n := range []uint64{0, 1, last(field) - 1, last(field)} {
			var all []api.Header
			for _, x := range []uint64{0, 1, 2, last(field) - 1, last(field), last(field) + 1, math.MaxUint64} {
				h := api.Header{api.Kind: 1, api.Switch: 2}
				h[field] = x
				all = append(all, h)
			}
			wantMeant(t, is(field, n), all...)
			wantMeant(t, filter(not(is(field, n))), all...)
		}
	}
	for _, field := range settable() {
		for _, n := range []uint64{0, 1, last(field) - 1, last(field)} {
			if field == api.Port && n == 0 {
				continue
			}
			wantMeant(t, set(field, n), api.Header{}, api.Header{api.Src: 1, api.Port: last(field)})
			wantMeant(t, then(union(set(field, n), id()), filter(is(field, n))), api.Header{}, api.Header{api.Src: 1, api.Port: last(field)})
			end := api.Header{}
			end[field] = last(field)
			wantMeant(t, star(step(field, last(field), n)), end, api.Header{})
		}
	}
}
