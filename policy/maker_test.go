package policy

import (
	"math/rand"
	"strconv"

	"tollbridge/api"
	"tollbridge/header"
)

// maker makes policies at random.
type maker struct{ *rand.Rand }

func (m maker) policy(deep int) api.Policy {
	p := policyOf(m.pol(deep))
	for i := range m.Intn(4) {
		p.Queries = append(p.Queries, query("q"+strconv.Itoa(i), m.pred(deep)))
	}
	return p
}

func (m maker) kids(op int8, made func() api.Term) api.Term {
	t := api.Term{Op: op}
	for range 1 + m.Intn(4) {
		t.Kids = append(t.Kids, made())
	}
	return t
}

func (m maker) pol(deep int) api.Term {
	op := int8(api.Filter + m.Intn(5))
	if deep == 0 {
		op = int8(api.Filter + m.Intn(2))
	}
	below := func() api.Term { return m.pol(deep - 1) }
	switch op {
	case api.Filter:
		return filter(m.pred(max(0, deep-1)))
	case api.Set:
		fields := []int8{api.Src, api.Dst, api.From, api.To, api.SPort, api.DPort, api.Port}
		return m.pair(op, fields[m.Intn(len(fields))])
	case api.Star:
		return star(below())
	}
	return m.kids(op, below)
}

func (m maker) pred(deep int) api.Term {
	op := int8(m.Intn(6))
	if deep == 0 {
		op = int8(m.Intn(3))
	}
	below := func() api.Term { return m.pred(deep - 1) }
	switch op {
	case api.No, api.Yes:
		return api.Term{Op: op}
	case api.Is:
		fields := []int8{api.Src, api.Dst, api.Kind, api.From, api.To, api.Proto, api.SPort, api.DPort, api.Port, api.Switch}
		return m.pair(op, fields[m.Intn(len(fields))])
	case api.Not:
		return not(below())
	}
	return m.kids(op, below)
}

func (m maker) pair(op, field int8) api.Term {
	last := uint64(1)<<header.Width(field) - 1
	n := []uint64{1, 1, 2, last, last - 1, 1 + m.Uint64()%last}[m.Intn(6)]
	return api.Term{Op: op, Field: field, N: n}
}

// change makes a term another one, which may be none.
func (m maker) change(x *api.Term) {
	switch m.Intn(7) {
	case 0:
		x.Op = int8(m.Intn(14) - 1)
	case 1:
		x.Field = int8(m.Intn(14) - 1)
	case 2:
		x.N = uint64(1) << m.Intn(64)
	case 3:
		x.Kids = append(x.Kids, m.pred(1))
	case 4:
		x.Kids = append(x.Kids, m.pol(1))
	case 5:
		x.Kids = x.Kids[:len(x.Kids)/2]
	case 6:
		x.N = 0
	}
}

// spots are the places of all terms of a policy.
func spots(p *api.Policy) []*api.Term {
	var list []*api.Term
	var walk func(t *api.Term)
	walk = func(t *api.Term) {
		list = append(list, t)
		for i := range t.Kids {
			walk(&t.Kids[i])
		}
	}
	walk(&p.Main)
	for i := range p.Queries {
		walk(&p.Queries[i].Pred)
	}
	return list
}
