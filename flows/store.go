package flows

import (
	"cmp"
	"maps"
	"slices"

	"tollbridge/api"
	"tollbridge/match"
	"tollbridge/tuples"
)

// store is the rules that are there. Its table of masks stands in a field with
// a name, since its methods must not become the Table's.
type store struct {
	masks  *tuples.Table
	rules  map[int]*entry // by the numbers that masks gave them
	places map[place]*entry
}

// entry is a rule with what it has counted. Numbers rise in the order in which
// rules are added.
type entry struct {
	tally
	number int
	rule   api.Rule
}

// place is what no two rules have in common.
type place struct {
	rank  int
	match api.Match
}

func placeOf(r api.Rule) place {
	return place{rank: r.Rank, match: r.Match}
}

func newStore() store {
	return store{masks: tuples.New(), rules: map[int]*entry{}, places: map[place]*entry{}}
}

func (s *store) size() int {
	return len(s.rules)
}

// put adds a rule whose match was checked and for which there is room, so that
// masks cannot refuse it.
func (s *store) put(r api.Rule) {
	number, _ := s.masks.Add(r)
	e := &entry{number: number, rule: fresh(r)}
	s.rules[number] = e
	s.places[placeOf(r)] = e
}

func (s *store) drop(e *entry) {
	s.masks.Drop(e.number)
	delete(s.rules, e.number)
	delete(s.places, placeOf(e.rule))
}

// met is the rule that h meets.
func (s *store) met(h api.Header) (*entry, bool) {
	number, there := s.masks.Find(h)
	return s.rules[number], there
}

// ofPlace is the rule of r's place, if there is one.
func (s *store) ofPlace(r api.Rule) []*entry {
	if e, there := s.places[placeOf(r)]; there {
		return []*entry{e}
	}
	return nil
}

func (s *store) under(m api.Match) []*entry {
	return slices.DeleteFunc(s.inOrder(), func(e *entry) bool {
		return !match.Under(e.rule.Match, m)
	})
}

// inOrder is all rules, by falling Rank and as they were added.
func (s *store) inOrder() []*entry {
	return slices.SortedFunc(maps.Values(s.rules), func(a, b *entry) int {
		return cmp.Or(cmp.Compare(b.rule.Rank, a.rule.Rank), cmp.Compare(a.number, b.number))
	})
}

// fresh is the rule with lists of its own.
func fresh(r api.Rule) api.Rule {
	r.Copies = slices.Clone(r.Copies)
	for i, actions := range r.Copies {
		r.Copies[i] = slices.Clone(actions)
	}
	return r
}
