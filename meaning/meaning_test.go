package meaning

import (
	"math"
	"slices"
	"testing"

	"tollbridge/api"
	"tollbridge/header"
	"tollbridge/parse"
)

func yes() api.Term { return api.Term{Op: api.Yes} }
func no() api.Term  { return api.Term{Op: api.No} }

func is(field int8, n uint64) api.Term  { return api.Term{Op: api.Is, Field: field, N: n} }
func set(field int8, n uint64) api.Term { return api.Term{Op: api.Set, Field: field, N: n} }

func term(op int8, kids ...api.Term) api.Term { return api.Term{Op: op, Kids: kids} }

func filter(pred api.Term) api.Term   { return term(api.Filter, pred) }
func not(pred api.Term) api.Term      { return term(api.Not, pred) }
func and(kids ...api.Term) api.Term   { return term(api.And, kids...) }
func or(kids ...api.Term) api.Term    { return term(api.Or, kids...) }
func union(kids ...api.Term) api.Term { return term(api.Union, kids...) }
func then(kids ...api.Term) api.Term  { return term(api.Then, kids...) }
func star(pol api.Term) api.Term      { return term(api.Star, pol) }

func with(h api.Header, f int8, n uint64) api.Header {
	h[f] = n
	return h
}

// askable and settable are the fields that Is and Set may name.
func askable() []int8 {
	return []int8{api.Src, api.Dst, api.Kind, api.From, api.To, api.Proto, api.SPort, api.DPort, api.Port, api.Switch}
}

func settable() []int8 {
	return []int8{api.Src, api.Dst, api.From, api.To, api.SPort, api.DPort, api.Port}
}

func last(field int8) uint64 { return uint64(1)<<header.Width(field) - 1 }

// example is the header of the chapter's examples.
func example() api.Header { return api.Header{api.Port: 1, api.Kind: 2048} }

// full has another number in each field, too great for most of them.
func full() api.Header {
	var h api.Header
	for field := range h {
		h[field] = math.MaxUint64 - uint64(field)
	}
	return h
}

// wantSet asks for a set in its order.
func wantSet(t *testing.T, pol api.Term, h api.Header, want ...api.Header) {
	t.Helper()
	if list, e := Of(pol, h); e != api.OK || !slices.Equal(list, want) {
		t.Errorf("%v of %v: %v, %v, want %v", pol, h, list, e, want)
	}
}

// wantPorts asks for a set of headers that differ from h in their Port alone.
func wantPorts(t *testing.T, pol api.Term, h api.Header, ports ...uint64) {
	t.Helper()
	var want []api.Header
	for _, n := range ports {
		want = append(want, with(h, api.Port, n))
	}
	wantSet(t, pol, h, want...)
}

// wantError asks for an error, beside which nothing is told.
func wantError(t *testing.T, pol api.Term, h api.Header, want api.Errno, what string) {
	t.Helper()
	if list, e := Of(pol, h); e != want || len(list) != 0 {
		t.Errorf("%s: %d headers, %v, want %v", what, len(list), e, want)
	}
}

// wantHolds asks Holds, and Filter of the same predicate.
func wantHolds(t *testing.T, pred api.Term, h api.Header, want bool) {
	t.Helper()
	if got := Holds(pred, h); got != want {
		t.Errorf("%v of %v: %v", pred, h, got)
	}
	if want {
		wantSet(t, filter(pred), h, h)
		return
	}
	wantSet(t, filter(pred), h)
}

func read(t *testing.T, text string) api.Policy {
	t.Helper()
	p, err := parse.Policy(text)
	if err != nil {
		t.Fatal(text, err)
	}
	return p
}

// The chapter's examples, and the document's.
func TestExamples(t *testing.T) {
	for text, want := range map[string][]uint64{
		"filter port = 1 ; port := 2":                                     {2},
		"port := 2 + port := 3 + drop":                                    {2, 3},
		"( filter port = 1 ; port := 2 + filter port = 2 ; port := 3 ) *": {1, 2, 3},
		"filter port = 2":                                                 nil,
		"filter port = 2 ; port := 3":                                     nil,
		"id":                                                              {1},
		"drop":                                                            nil,
		"if switch = 1 then port := 4 else port := 2":                     {2},
		"if switch = 0 then port := 4 else port := 2":                     {4},
		"( port := 2 ) *":                                                 {1, 2},
		"( drop ) *":                                                      {1},
		"port := 3 + port := 2 + port := 3 + port := 1":                   {1, 2, 3},
		"( id + port := 2 ) ; ( id + port := 3 )":                         {1, 2, 3},
		"( id + port := 2 ) ; filter port = 2":                            {2},
		"port := 2 ; filter ! port = 2":                                   nil,
		"( port := 2 + port := 65535 ) ; filter ! ( port = 1 | port = 2 )":           {65535},
		"( if port = 1 then port := 7 else if port = 7 then port := 1 else drop ) *": {1, 7},
	} {
		wantPorts(t, read(t, text).Main, example(), want...)
	}
}

// P19.1: Yes, No and Is, of each field, with each bit of its number.
func TestHoldsOfOne(t *testing.T) {
	for _, h := range []api.Header{{}, example(), full()} {
		wantHolds(t, yes(), h, true)
		wantHolds(t, no(), h, false)
		for _, field := range askable() {
			for _, n := range []uint64{0, 1, 2, last(field) - 1, last(field)} {
				at := with(h, field, n)
				wantHolds(t, is(field, n), at, true)
				wantHolds(t, not(is(field, n)), at, false)
				for bit := range 64 {
					wantHolds(t, is(field, n), with(h, field, n^1<<bit), false)
					wantHolds(t, not(is(field, n)), with(h, field, n^1<<bit), true)
				}
				for other := range int8(api.Fields) {
					if other != field {
						wantHolds(t, is(field, n), with(at, other, n+1), true)
					}
				}
			}
		}
	}
}

// P19.1: And and Or of each row of kids that hold or don't, and what stands on
// them.
func TestHoldsOfMany(t *testing.T) {
	h := example()
	for count := 1; count <= 6; count++ {
		for bits := range 1 << count {
			var kids, plain []api.Term
			for i := range count {
				if bits>>i&1 == 1 {
					kids, plain = append(kids, is(api.Port, 1)), append(plain, yes())
				} else {
					kids, plain = append(kids, is(api.Kind, 1)), append(plain, no())
				}
			}
			all, some := bits == 1<<count-1, bits != 0
			for _, list := range [][]api.Term{kids, plain} {
				wantHolds(t, and(list...), h, all)
				wantHolds(t, or(list...), h, some)
				wantHolds(t, not(and(list...)), h, !all)
				wantHolds(t, not(or(list...)), h, !some)
				wantHolds(t, not(not(or(list...))), h, some)
				wantHolds(t, or(no(), and(list...)), h, all)
				wantHolds(t, or(and(list...), yes()), h, true)
				wantHolds(t, and(or(list...), yes()), h, some)
				wantHolds(t, and(or(list...), no()), h, false)
				wantHolds(t, and(or(list...), not(and(list...))), h, some && !all)
			}
		}
	}
}

// noPredicates are what policy.Pred refuses, with its error.
func noPredicates() map[api.Errno][]api.Term {
	deep, wide := yes(), make([]api.Term, api.MaxTerms)
	for range api.MaxDepth {
		deep = not(not(deep))
	}
	for i := range wide {
		wide[i] = yes()
	}
	refused := []api.Term{
		set(api.Port, 1), filter(yes()), star(filter(yes())), union(filter(yes())), then(filter(yes())),
		is(api.Vlan, 0), is(api.Vlan, 1), is(-1, 0), is(api.Fields, 0), is(127, 0), is(-128, 0),
		and(), or(), not(and()), {Op: api.Not}, term(api.Not, yes(), yes()), {Op: api.Yes, N: 1}, {Op: api.No, Field: 1}, term(api.Yes, yes()),
		{Op: 11}, {Op: -1}, {Op: 127}, {Op: -128}, not(api.Term{Op: 11}), or(yes(), api.Term{Op: -1}), and(no(), set(api.Port, 1)), or(yes(), filter(yes())),
	}
	for _, field := range askable() {
		refused = append(refused, is(field, last(field)+1), is(field, math.MaxUint64), or(yes(), is(field, last(field)+1)))
	}
	return map[api.Errno][]api.Term{api.ErrPolicy: refused, api.ErrTooBig: {deep, not(deep), or(wide...), or(yes(), and(wide...))}}
}

// P19.1, P19.2: what is no predicate holds of nothing, and makes a Filter none.
func TestNoPredicates(t *testing.T) {
	for want, list := range noPredicates() {
		for _, pred := range list {
			for _, h := range []api.Header{{}, example(), full(), with(example(), api.Vlan, 1)} {
				if Holds(pred, h) {
					t.Errorf("%v holds of %v", pred.Op, h)
				}
				wantError(t, filter(pred), h, want, "a Filter of no predicate")
				wantError(t, then(filter(no()), filter(pred)), h, want, "a Filter that is never asked")
			}
		}
	}
	if !Holds(is(api.Port, 0), api.Header{}) || Holds(set(api.Port, 1), api.Header{api.Port: 1}) {
		t.Error("the numbers 0")
	}
}
