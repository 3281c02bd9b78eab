package meaning

import (
	"math/rand"
	"strconv"

	"tollbridge/api"
)

// maker makes terms at random. A narrow one keeps to few fields and few numbers,
// so that tests and settings meet.
type maker struct {
	*rand.Rand
	isNarrow bool
}

func (m maker) kids(op int8, made func() api.Term) api.Term {
	t := api.Term{Op: op}
	for range 1 + m.Intn(4) {
		t.Kids = append(t.Kids, made())
	}
	return t
}

func (m maker) pol(deep int) api.Term {
	op := int8(api.Filter + m.Intn(5))
	if deep == 0 {
		op = int8(api.Filter + m.Intn(2))
	}
	below := func() api.Term { return m.pol(deep - 1) }
	switch op {
	case api.Filter:
		return filter(m.pred(max(0, deep-1)))
	case api.Set:
		return m.pair(op, settable())
	case api.Star:
		return star(below())
	}
	return m.kids(op, below)
}

func (m maker) pred(deep int) api.Term {
	op := int8(m.Intn(6))
	if deep == 0 {
		op = []int8{api.No, api.Yes, api.Is, api.Is, api.Is}[m.Intn(5)]
	}
	below := func() api.Term { return m.pred(deep - 1) }
	switch op {
	case api.No, api.Yes:
		return api.Term{Op: op}
	case api.Is:
		return m.pair(op, askable())
	case api.Not:
		return not(below())
	}
	return m.kids(op, below)
}

func (m maker) pair(op int8, fields []int8) api.Term {
	field := fields[m.Intn(len(fields))]
	n := []uint64{1, 2, last(field), last(field) - 1, 1 + m.Uint64()%last(field)}[m.Intn(5)]
	if m.isNarrow {
		field, n = []int8{api.Port, api.To}[m.Intn(2)], uint64(1+m.Intn(3))
	}
	return api.Term{Op: op, Field: field, N: n}
}

// header has numbers that the maker's terms name, and others.
func (m maker) header() api.Header {
	var h api.Header
	for field := range int8(api.Fields) {
		h[field] = []uint64{0, 1, 2, 3, last(field), last(field) + 1, m.Uint64()}[m.Intn(7)]
	}
	if m.isNarrow {
		h[api.Port], h[api.To] = uint64(m.Intn(4)), uint64(m.Intn(4))
	}
	return h
}

// steps is a policy that goes about among many headers, so that sets, rounds and
// work come near their bounds.
func (m maker) steps() api.Term {
	var kids []api.Term
	for range 1 + m.Intn(50) {
		field := []int8{api.Port, api.Port, api.To}[m.Intn(3)]
		step := set(field, uint64(1+m.Intn(40)))
		if m.Intn(4) != 0 {
			step = then(filter(is(api.Port, uint64(1+m.Intn(40)))), step)
		}
		kids = append(kids, step)
	}
	pol := union(kids...)
	for range 1 + m.Intn(3) {
		switch m.Intn(4) {
		case 0:
			pol = then(pol, pol)
		case 1:
			pol = then(ways(api.Dst, 1+m.Intn(9)), pol, m.pol(1))
		default:
			pol = star(pol)
		}
	}
	return pol
}

func describe(n int) string { return "policy " + strconv.Itoa(n) }
