package policy

import (
	"slices"

	"tollbridge/api"
)

// never is the Op of no term.
const never = -1

// joint is what parts mean to the term that joins them: Yes and No stand for
// themselves among predicates, and for Filters of them among policies.
type joint struct {
	idle int8 // the part that changes nothing
	ends int8 // the part by which all the others mean nothing
}

// joints go by Op.
var joints = [...]joint{
	api.And:   {idle: api.Yes, ends: api.No},
	api.Or:    {idle: api.No, ends: api.Yes},
	api.Union: {idle: api.No, ends: never},
	api.Then:  {idle: api.Yes, ends: api.No},
}

// Plain: P18.2.
func Plain(p api.Policy) (api.Policy, api.Errno) {
	if e := Check(p); e != api.OK {
		return api.Policy{}, e
	}
	made := api.Policy{Main: plain(p.Main)}
	for _, query := range p.Queries {
		made.Queries = append(made.Queries, api.Query{Name: query.Name, Pred: plain(query.Pred)})
	}
	return made, api.OK
}

// plain makes all lists anew, so that the answer has none of the policy's.
func plain(t api.Term) api.Term {
	var kids []api.Term
	for _, kid := range t.Kids {
		kids = append(kids, plain(kid))
	}
	switch t.Op {
	case api.Not:
		return plainNot(kids[0])
	case api.And, api.Or, api.Union, api.Then:
		return joined(t.Op, kids)
	case api.Star:
		return plainStar(kids[0])
	}
	return api.Term{Op: t.Op, Field: t.Field, N: t.N, Kids: kids}
}

func plainNot(kid api.Term) api.Term {
	switch kid.Op {
	case api.Not:
		return kid.Kids[0]
	case api.Yes:
		return api.Term{Op: api.No}
	case api.No:
		return api.Term{Op: api.Yes}
	}
	return over(api.Not, kid)
}

func plainStar(kid api.Term) api.Term {
	switch kid.Op {
	case api.Star:
		return kid
	case api.Filter:
		return over(api.Filter, api.Term{Op: api.Yes})
	}
	return over(api.Star, kid)
}

// joined is the plain form of an And, an Or, a Union or a Then over plain Kids.
func joined(op int8, kids []api.Term) api.Term {
	own := joints[op]
	if slices.ContainsFunc(kids, func(kid api.Term) bool { return says(kid, own.ends) }) {
		return saying(own.ends, op)
	}
	left := gather(op, kids...)
	switch len(left) {
	case 0:
		return saying(own.idle, op)
	case 1:
		return left[0]
	}
	return over(op, left...)
}

// gather is the parts that are left. One level is enough: what is plain has no
// Kids of its own Op, and none that change nothing.
func gather(op int8, parts ...api.Term) []api.Term {
	var left []api.Term
	for _, part := range parts {
		switch {
		case part.Op == op:
			left = append(left, part.Kids...)
		case !says(part, joints[op].idle):
			left = append(left, part)
		}
	}
	return left
}

// says holds of Yes or No itself, and of a Filter of it.
func says(t api.Term, what int8) bool {
	if t.Op == api.Filter {
		t = t.Kids[0]
	}
	return t.Op == what
}

// saying is Yes or No, on the side on which a term of that Op stands.
func saying(what, op int8) api.Term {
	t := api.Term{Op: what}
	if wants[op].side == policy {
		return over(api.Filter, t)
	}
	return t
}

func over(op int8, kids ...api.Term) api.Term {
	return api.Term{Op: op, Kids: kids}
}
