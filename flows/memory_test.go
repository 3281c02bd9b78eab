package flows

import (
	"reflect"
	"slices"
	"testing"

	"tollbridge/api"
)

// roomy is a rule whose lists have room behind their ends, with the whole of
// that room.
func roomy(r api.Rule) (api.Rule, [][]api.Action) {
	acts := []api.Action{{Do: api.ActOut, N: 1}, {Do: api.ActPunt}, {Do: api.ActOut, N: 3}}
	more := []api.Action{{Do: api.ActSet, Field: api.Dst, N: 9}, {Do: api.ActOut}}
	whole := [][]api.Action{acts[:2], more[:1], acts[1:]}
	r.Copies = whole[:2]
	return r, whole
}

// spoil writes over every list of a rule, and into the room behind their ends.
func spoil(r api.Rule) {
	for _, list := range r.Copies[:cap(r.Copies)] {
		list = list[:cap(list)]
		for i := range list {
			list[i] = api.Action{Do: 77, Field: 77, N: 77}
		}
	}
	copies := r.Copies[:cap(r.Copies)]
	for i := range copies {
		copies[i] = []api.Action{{Do: 66}}
	}
}

// R3: what is handed in is not changed, with the room behind the ends of its
// lists, by no call.
func TestRuleIsLeftAlone(t *testing.T) {
	for what := range int8(5) {
		r, whole := roomy(dst(1, 1, 1))
		_, want := roomy(dst(1, 1, 1))
		x := with(t, dst(1, 1, 2), dst(2, 1, 3))
		x.Do(what, r)
		x.Find(to(1), 5)
		for _, h := range x.Helds() {
			spoil(h.Rule)
		}
		if !reflect.DeepEqual(whole, want) || len(r.Copies) != 2 {
			t.Errorf("Do(%d, ..): %v, not %v", what, whole, want)
		}
		if last := whole[0][:3][2]; last != (api.Action{Do: api.ActOut, N: 3}) {
			t.Errorf("Do(%d, ..): %v behind the end", what, last)
		}
	}
}

// R3: what is handed in is not kept: writing there later changes nothing.
func TestRuleIsNotKept(t *testing.T) {
	added, _ := roomy(dst(1, 1, 1))
	changed, _ := roomy(dst(1, 2, 2))
	x := with(t, added, dst(1, 2, 1))
	do(t, x, api.RuleModify, changed, 1)
	spoil(added)
	spoil(changed)
	a, _ := roomy(dst(1, 1, 1))
	b, _ := roomy(dst(1, 2, 2))
	find(t, x, to(1), 1, a)
	find(t, x, to(2), 1, b)
	holds(t, x, has(a, 1, 1), has(b, 1, 1))
}

// R3: no later answer shows what the caller writes into an earlier one, be the
// rule's Copies its own or those that several rules got at once.
func TestAnswersAreNew(t *testing.T) {
	a, _ := roomy(dst(1, 1, 1))
	b, _ := roomy(dst(1, 2, 1))
	x := with(t, a, dst(1, 2, 1))
	for range 2 {
		r, _ := x.Find(to(1), 0)
		spoil(r)
		find(t, x, to(1), 0, a)
		for _, h := range x.Helds() {
			if len(h.Rule.Copies) > 0 {
				spoil(h.Rule)
			}
		}
		find(t, x, to(1), 0, a)
		do(t, x, api.RuleModify, api.Rule{Copies: a.Copies, Cookie: 1}, 2)
		find(t, x, to(2), 0, b)
	}
	list := x.Helds()
	list[0] = api.Held{}
	if h := x.Helds(); h[0].Rule.Match != a.Match {
		t.Error(h)
	}
	do(t, x, api.RuleDelete, all(0, 0), 2)
	gone := x.Gone()
	gone[0] = lost(5, 5, 5)
	isGone(t, x, lost(1, 8, 0))
}

// R3: no two lists of one answer share memory, those of rules that got their
// Copies at once neither, nor those that were one list when they came in.
func TestListsApart(t *testing.T) {
	acts := []api.Action{{Do: api.ActOut, N: 1}}
	r := api.Rule{Copies: [][]api.Action{acts, acts}}
	x := with(t, dst(1, 1, 0), dst(1, 2, 0))
	do(t, x, api.RuleModify, r, 2)
	list := x.Helds()
	spoil(list[0].Rule)
	if !sameRule(list[1].Rule, api.Rule{Rank: 1, Match: dst(1, 2, 0).Match, Copies: r.Copies}) {
		t.Errorf("%v", list[1].Rule)
	}
	told, _ := x.Find(to(1), 0)
	told.Copies[0][0] = api.Action{Do: 77}
	if !slices.Equal(told.Copies[1], acts) {
		t.Errorf("%v", told.Copies)
	}
}

// R3: an answer that was given stays as it was, whatever is done then.
func TestAnswersStay(t *testing.T) {
	a := out(dst(1, 1, 1), 2)
	x := with(t, a)
	told, _ := x.Find(to(1), 5)
	helds := x.Helds()
	do(t, x, api.RuleModify, out(all(0, 9), 8), 1)
	gone := x.Gone()
	x.Find(to(1), 5)
	do(t, x, api.RuleModify, out(all(0, 1), 7), 1)
	x.Find(to(1), 5)
	do(t, x, api.RuleDelete, all(0, 0), 1)
	if !sameRule(told, a) || !sameHeld(helds[0], has(a, 1, 5)) || !sameHeld(gone[0], lost(1, 1, 5)) {
		t.Errorf("%v %v %v", told, helds, gone)
	}
	isGone(t, x, lost(1, 2, 10), lost(9, 1, 5))
}
