package meaning

import "tollbridge/api"

// headers is a set, in the order in which its headers were come to. Most sets
// have one header alone, so the map begins behind the first.
type headers struct {
	list []api.Header
	more map[api.Header]struct{}
}

func (s *headers) add(h api.Header) {
	if len(s.list) == 0 {
		s.list = append(s.list, h)
		return
	}
	if _, ok := s.more[h]; ok || h == s.list[0] {
		return
	}
	must(len(s.list) < api.MaxParts)
	if s.more == nil {
		s.more = map[api.Header]struct{}{}
	}
	s.more[h] = struct{}{}
	s.list = append(s.list, h)
}

// reckoner asks the terms of one policy, all of which are some.
type reckoner struct {
	table *rows
	left  int // how much work there may still be
}

// ask adds all that a policy makes of a header to a set that is asked for its
// size. So a Union needs no set of its own: one that is too big makes that too
// big to which it is added, and the answer is the same.
func (r *reckoner) ask(t api.Term, h api.Header, made *headers) {
	switch t.Op {
	case api.Filter:
		r.work(terms(t))
		if r.table.hold(t.Kids[0], h) {
			made.add(h)
		}
	case api.Set:
		r.work(1)
		h[t.Field] = t.N
		made.add(h)
	case api.Union:
		for _, kid := range t.Kids {
			r.ask(kid, h, made)
		}
	case api.Then:
		r.then(t.Kids, h, made)
	case api.Star:
		r.star(t.Kids[0], h, made)
	}
}

func (r *reckoner) then(kids []api.Term, h api.Header, made *headers) {
	last := len(kids) - 1
	ahead := []api.Header{h}
	for _, kid := range kids[:last] {
		if len(ahead) == 0 {
			return
		}
		var behind headers
		r.askAll(kid, ahead, &behind)
		ahead = behind.list
	}
	r.askAll(kids[last], ahead, made)
}

// star adds round by round. While MaxRounds and MaxParts are alike, a star of too
// many rounds has too many headers too.
func (r *reckoner) star(kid api.Term, h api.Header, made *headers) {
	all := headers{list: []api.Header{h}}
	fresh := all.list
	for round := 1; len(fresh) > 0; round++ {
		must(round <= api.MaxRounds)
		known := len(all.list)
		r.askAll(kid, fresh, &all)
		fresh = all.list[known:]
	}
	for _, x := range all.list {
		made.add(x)
	}
}

func (r *reckoner) askAll(t api.Term, list []api.Header, made *headers) {
	for _, h := range list {
		r.ask(t, h, made)
	}
}

func (r *reckoner) work(n int) {
	r.left -= n
	must(r.left >= 0)
}

// terms counts a term and all below it.
func terms(t api.Term) int {
	n := 1
	for _, kid := range t.Kids {
		n += terms(kid)
	}
	return n
}

// must leaves what is too big by a panic, which Of turns into its answer.
func must(fits bool) {
	if !fits {
		panic(api.ErrTooBig)
	}
}
