package flows

import (
	"math"
	"reflect"
	"slices"
	"testing"

	"tollbridge/api"
)

const full48 = 1<<48 - 1

// bits of the fields, written out once more so as not to lean on what is tested.
var widths = [api.Fields]int{48, 48, 16, 12, 32, 32, 8, 16, 16, 16, 16}

// only is a header with that one field.
func only(field int, value uint64) api.Header {
	var h api.Header
	h[field] = value
	return h
}

// on is a match over one field.
func on(field int, value, mask uint64) api.Match {
	return api.Match{Value: only(field, value), Mask: only(field, mask)}
}

// dst is a rule for one Dst.
func dst(rank int, value, cookie uint64) api.Rule {
	return api.Rule{Rank: rank, Match: on(api.Dst, value, full48), Cookie: cookie}
}

// all is a rule for everything.
func all(rank int, cookie uint64) api.Rule {
	return api.Rule{Rank: rank, Cookie: cookie}
}

// out is r with one copy, out at that port.
func out(r api.Rule, port uint64) api.Rule {
	r.Copies = [][]api.Action{{{Do: api.ActOut, N: port}}}
	return r
}

// to is a header with that Dst.
func to(value uint64) api.Header {
	return api.Header{api.Dst: value}
}

// has is a held rule with its counts.
func has(r api.Rule, packets, bytes uint64) api.Held {
	return api.Held{Rule: r, Counts: api.Counts{Packets: packets, Bytes: bytes}}
}

// lost is what is gone of a Cookie.
func lost(cookie, packets, bytes uint64) api.Held {
	return has(api.Rule{Cookie: cookie}, packets, bytes)
}

func do(t *testing.T, x *Table, what int8, r api.Rule, want int) {
	t.Helper()
	if n, e := x.Do(what, r); n != want || e != api.OK {
		t.Fatalf("Do(%d, ..): %d, %v, not %d", what, n, e, want)
	}
}

// refuse asks that nothing changes either.
func refuse(t *testing.T, x *Table, what int8, r api.Rule, want api.Errno) {
	t.Helper()
	helds, gone := x.Helds(), x.Gone()
	if n, e := x.Do(what, r); n != 0 || e != want {
		t.Errorf("Do(%d, ..): %d, %v, not 0, %v", what, n, e, want)
	}
	holds(t, x, helds...)
	isGone(t, x, gone...)
}

func find(t *testing.T, x *Table, h api.Header, bytes int, want api.Rule) {
	t.Helper()
	r, ok := x.Find(h, bytes)
	if !ok || !sameRule(r, want) {
		t.Errorf("Find(%v, %d): %v, %t, not %v", h, bytes, r, ok, want)
	}
}

func findNone(t *testing.T, x *Table, h api.Header, bytes int) {
	t.Helper()
	if r, ok := x.Find(h, bytes); ok || !reflect.DeepEqual(r, api.Rule{}) {
		t.Errorf("Find(%v, %d): %v, %t, not none", h, bytes, r, ok)
	}
}

func holds(t *testing.T, x *Table, want ...api.Held) {
	t.Helper()
	if list := x.Helds(); !slices.EqualFunc(list, want, sameHeld) {
		t.Errorf("Helds: %v, not %v", list, want)
	}
}

func isGone(t *testing.T, x *Table, want ...api.Held) {
	t.Helper()
	if list := x.Gone(); !slices.EqualFunc(list, want, sameHeld) {
		t.Errorf("Gone: %v, not %v", list, want)
	}
}

func sameHeld(a, b api.Held) bool {
	return sameRule(a.Rule, b.Rule) && a.Counts == b.Counts
}

// sameRule: empty lists are alike, be they nil or not.
func sameRule(a, b api.Rule) bool {
	return a.Rank == b.Rank && a.Match == b.Match && a.Cookie == b.Cookie &&
		slices.EqualFunc(a.Copies, b.Copies, slices.Equal[[]api.Action])
}

// with is a table for many rules, with these.
func with(t *testing.T, list ...api.Rule) *Table {
	t.Helper()
	x := New(api.MaxRules)
	for _, r := range list {
		do(t, x, api.RuleAdd, r, 1)
	}
	return x
}

// The chapter's examples.
func TestExamples(t *testing.T) {
	x := New(2)
	a, b := dst(1, 1, 7), all(1, 8)
	do(t, x, api.RuleAdd, a, 1)
	do(t, x, api.RuleAdd, b, 1)
	refuse(t, x, api.RuleAdd, dst(1, 3, 9), api.ErrFull)

	find(t, x, to(1), 60, a)
	find(t, x, to(2), 60, b)
	holds(t, x, has(a, 1, 60), has(b, 1, 60))

	do(t, x, api.RuleAdd, a, 1)
	isGone(t, x, lost(7, 1, 60))

	do(t, x, api.RuleDelete, all(0, 0), 2)
	holds(t, x)
}

// P11.1: room is brought into 0 to MaxRules; that many rules there may be, and
// not one more (P11.2, P11.7).
func TestRoom(t *testing.T) {
	if api.MaxRules != 1024 {
		t.Fatal(api.MaxRules)
	}
	cases := []struct{ room, want int }{
		{math.MinInt, 0}, {-1024, 0}, {-1, 0}, {0, 0}, {1, 1}, {2, 2},
		{1023, 1023}, {1024, 1024}, {1025, 1024}, {math.MaxInt, 1024},
	}
	for _, k := range cases {
		x := New(k.room)
		if x == nil {
			t.Fatal(k.room, "no table")
		}
		holds(t, x)
		isGone(t, x)
		findNone(t, x, to(1), 60)
		for n := range k.want {
			do(t, x, api.RuleAdd, dst(1, uint64(n), uint64(n)), 1)
		}
		refuse(t, x, api.RuleAdd, dst(1, uint64(k.want), 5), api.ErrFull)
		refuse(t, x, api.RuleAdd, all(math.MaxInt, 5), api.ErrFull)
		if n := len(x.Helds()); n != k.want {
			t.Errorf("New(%d): %d rules, not %d", k.room, n, k.want)
		}
	}
}

// P11.2: in a full table a rule of a place that is there is still taken, and
// once one is gone there is room for another one.
func TestFullTakesWhatIsThere(t *testing.T) {
	for _, room := range []int{1, 2, 1024} {
		x := New(room)
		for n := range room {
			do(t, x, api.RuleAdd, dst(1, uint64(n), 1), 1)
		}
		for n := range room {
			do(t, x, api.RuleAdd, dst(1, uint64(n), 2), 1)
			refuse(t, x, api.RuleAdd, dst(2, uint64(n), 2), api.ErrFull)
		}
		isGone(t, x, lost(1, 0, 0))
		do(t, x, api.RuleStrict, dst(1, 0, 0), 1)
		do(t, x, api.RuleAdd, dst(2, 0, 3), 1)
		refuse(t, x, api.RuleAdd, dst(1, 0, 0), api.ErrFull)
		find(t, x, to(0), 1, dst(2, 0, 3))
		do(t, x, api.RuleDelete, all(0, 0), room)
		for n := range room {
			do(t, x, api.RuleAdd, dst(1, uint64(n), 1), 1)
		}
		refuse(t, x, api.RuleAdd, all(0, 0), api.ErrFull)
	}
}

// Without room there is nothing to change or delete, but that is no error.
func TestNoRoom(t *testing.T) {
	x := New(0)
	refuse(t, x, api.RuleAdd, all(1, 1), api.ErrFull)
	for _, what := range []int8{api.RuleModify, api.RuleDelete, api.RuleStrict} {
		do(t, x, what, all(1, 1), 0)
	}
	findNone(t, x, to(1), 1)
	holds(t, x)
	isGone(t, x)
}

// P11.1: tables have nothing in common.
func TestNewApart(t *testing.T) {
	x, y := New(2), New(2)
	do(t, x, api.RuleAdd, all(1, 1), 1)
	findNone(t, y, to(1), 1)
	do(t, y, api.RuleAdd, all(1, 2), 1)
	do(t, y, api.RuleDelete, all(0, 0), 1)
	find(t, x, to(1), 5, all(1, 1))
	holds(t, x, has(all(1, 1), 1, 5))
	isGone(t, x)
}

// R1: no table answers ErrNil and none, whatever it is handed.
func TestNoTable(t *testing.T) {
	var x *Table
	for _, what := range []int8{-128, -1, 0, 1, 2, 3, 4, 127} {
		refuse(t, x, what, dst(1, 1, 1), api.ErrNil)
		refuse(t, x, what, api.Rule{Match: on(api.Dst, 1, 0)}, api.ErrNil)
	}
	for _, bytes := range []int{math.MinInt, -1, 0, 1, math.MaxInt} {
		findNone(t, x, to(1), bytes)
		findNone(t, x, api.Header{}, bytes)
	}
	holds(t, x)
	isGone(t, x)
}

// R1: a table that did not come out of New does not panic either.
func TestZero(t *testing.T) {
	x := &Table{}
	refuse(t, x, api.RuleAdd, all(1, 1), api.ErrFull)
	for _, what := range []int8{api.RuleModify, api.RuleDelete, api.RuleStrict} {
		do(t, x, what, all(1, 1), 0)
	}
	findNone(t, x, to(1), 1)
	holds(t, x)
	isGone(t, x)
}

// The table has the chapter's calls, and none of those that it leans on: a rule
// that came by one of them would be counted nowhere.
func TestCalls(t *testing.T) {
	x := reflect.TypeFor[*Table]()
	var names []string
	for i := range x.NumMethod() {
		names = append(names, x.Method(i).Name)
	}
	if !slices.Equal(names, []string{"Do", "Find", "Gone", "Helds"}) {
		t.Error(names)
	}
}

// P11.2, R5: what is none of the four is refused ahead of what is no match, and
// that ahead of a full table.
func TestRefused(t *testing.T) {
	bad := api.Rule{Rank: 1, Match: on(api.Dst, 1, 0)}
	x := New(1)
	do(t, x, api.RuleAdd, all(1, 7), 1)
	find(t, x, to(1), 60, all(1, 7))
	for what := -128; what < 128; what++ {
		if what >= 0 && what <= 3 {
			refuse(t, x, int8(what), bad, api.ErrMatch)
			continue
		}
		refuse(t, x, int8(what), bad, api.ErrArg)
		refuse(t, x, int8(what), all(1, 8), api.ErrArg)
		refuse(t, x, int8(what), dst(1, 1, 8), api.ErrArg)
	}
	refuse(t, x, api.RuleAdd, dst(1, 1, 8), api.ErrFull)
	holds(t, x, has(all(1, 7), 1, 60))
}

// P11.2: what is no match is refused by all four, in every field, by a mask that
// is too wide and by a value that the mask does not have; the widest are taken.
func TestMatchesAlone(t *testing.T) {
	for field, width := range widths {
		whole := uint64(1)<<width - 1
		x := New(8)
		for _, m := range []api.Match{
			on(field, whole, whole), on(field, 0, whole), on(field, 1<<(width-1), 1<<(width-1)),
		} {
			do(t, x, api.RuleAdd, api.Rule{Match: m}, 1)
			do(t, x, api.RuleStrict, api.Rule{Match: m}, 1)
			do(t, x, api.RuleAdd, api.Rule{Match: m}, 1)
		}
		for _, m := range []api.Match{
			on(field, 0, whole+1), on(field, whole+1, whole+1), on(field, 0, math.MaxUint64),
			on(field, 1, 0), on(field, whole, whole-1), on(field, whole+1, whole),
		} {
			for what := range int8(4) {
				refuse(t, x, what, api.Rule{Match: m}, api.ErrMatch)
			}
		}
	}
}

// P11.2: Copies may be whatever they are, and are told as they were put.
func TestAnyCopies(t *testing.T) {
	for _, copies := range [][][]api.Action{
		nil, {}, {nil}, {{}, nil, {}},
		{{{Do: -128, Field: -128, N: math.MaxUint64}, {Do: 127, Field: 127}}, {{Do: api.ActPunt}}, {}},
		slices.Repeat([][]api.Action{{{Do: api.ActOut, N: 1}}}, 5000),
	} {
		r := dst(1, 1, 1)
		r.Copies = copies
		x := with(t, r)
		find(t, x, to(1), 1, r)
		holds(t, x, has(r, 1, 1))
		r.Rank = 2
		do(t, x, api.RuleModify, r, 1)
		r.Rank = 1
		find(t, x, to(1), 1, r)
		do(t, x, api.RuleStrict, r, 1)
	}
}

// P11.2, RuleAdd: a place is a Rank, a Value and a Mask; what differs in one of
// them stands beside.
func TestPlaces(t *testing.T) {
	list := []api.Rule{
		{Rank: 1, Match: on(api.Dst, 0, 3)},
		{Rank: 2, Match: on(api.Dst, 0, 3)},
		{Rank: 1, Match: on(api.Dst, 1, 3)},
		{Rank: 1, Match: on(api.Dst, 0, 1)},
		{Rank: 1, Match: on(api.Src, 0, 3)},
		{Rank: 1},
	}
	x := with(t, list...)
	if n := len(x.Helds()); n != len(list) {
		t.Fatal(n)
	}
	isGone(t, x)
	for _, r := range list {
		r.Cookie = 5
		do(t, x, api.RuleAdd, out(r, 3), 1)
	}
	if n := len(x.Helds()); n != len(list) {
		t.Fatal(n)
	}
	isGone(t, x, lost(0, 0, 0))
	for i, r := range list {
		do(t, x, api.RuleStrict, r, 1)
		do(t, x, api.RuleStrict, r, 0)
		if n := len(x.Helds()); n != len(list)-i-1 {
			t.Fatal(n)
		}
	}
}

// P11.2, RuleAdd: a rule in another's place has its own Copies and Cookie and
// counts from 0; what the other one counted is gone to the other one's Cookie.
func TestAddInPlace(t *testing.T) {
	x := with(t, out(dst(1, 1, 7), 2))
	find(t, x, to(1), 60, out(dst(1, 1, 7), 2))
	find(t, x, to(1), 40, out(dst(1, 1, 7), 2))
	do(t, x, api.RuleAdd, out(dst(1, 1, 8), 3), 1)
	holds(t, x, has(out(dst(1, 1, 8), 3), 0, 0))
	isGone(t, x, lost(7, 2, 100))
	find(t, x, to(1), 5, out(dst(1, 1, 8), 3))
	do(t, x, api.RuleAdd, dst(1, 1, 8), 1)
	isGone(t, x, lost(7, 2, 100), lost(8, 1, 5))
	holds(t, x, has(dst(1, 1, 8), 0, 0))
	do(t, x, api.RuleAdd, dst(1, 1, 7), 1)
	isGone(t, x, lost(7, 2, 100), lost(8, 1, 5))
}

// P11.2, RuleAdd: a rule in another's place stands as one that was added last,
// in Helds and for Find.
func TestAddInPlaceIsLast(t *testing.T) {
	a, b, c := dst(1, 1, 1), all(1, 2), all(0, 3)
	x := with(t, a, b, c)
	find(t, x, to(1), 1, a)
	do(t, x, api.RuleAdd, a, 1)
	holds(t, x, has(b, 0, 0), has(a, 0, 0), has(c, 0, 0))
	find(t, x, to(1), 1, b)
	do(t, x, api.RuleAdd, b, 1)
	holds(t, x, has(a, 0, 0), has(b, 0, 0), has(c, 0, 0))
	find(t, x, to(1), 1, a)
}

// P11.2, RuleModify: rules under the match, of whatever Rank, have the Copies
// and the Cookie; those that only touch it, or lie above it, are as they were.
func TestModifyUnder(t *testing.T) {
	narrow := api.Rule{Rank: 9, Match: on(api.To, 0x0a0b0c00, 0xffffff00), Cookie: 1}
	same := api.Rule{Rank: 5, Match: on(api.To, 0x0a0b0000, 0xffff0000), Cookie: 1}
	wide := api.Rule{Rank: 4, Match: on(api.To, 0x0a000000, 0xff000000), Cookie: 1}
	beside := api.Rule{Rank: 3, Match: on(api.To, 0x0a0c0000, 0xffff0000), Cookie: 1}
	touches := api.Rule{Rank: 2, Match: on(api.DPort, 80, 0xffff), Cookie: 1}
	both := api.Rule{Rank: 1, Match: touches.Match, Cookie: 1}
	both.Match.Value[api.To], both.Match.Mask[api.To] = 0x0a0b0c0d, 0xffffffff
	x := with(t, narrow, same, wide, beside, touches, both)

	do(t, x, api.RuleModify, out(api.Rule{Rank: -7, Match: same.Match, Cookie: 1}, 6), 3)
	holds(t, x,
		has(out(narrow, 6), 0, 0), has(out(same, 6), 0, 0), has(wide, 0, 0),
		has(beside, 0, 0), has(touches, 0, 0), has(out(both, 6), 0, 0))
	isGone(t, x)
	do(t, x, api.RuleModify, api.Rule{Match: on(api.To, 0x0b000000, 0xff000000), Cookie: 9}, 0)
	isGone(t, x)
	do(t, x, api.RuleModify, all(0, 1), 6)
	holds(t, x,
		has(narrow, 0, 0), has(same, 0, 0), has(wide, 0, 0),
		has(beside, 0, 0), has(touches, 0, 0), has(both, 0, 0))
}

// P11.2, RuleModify: counts stay with the Cookie; of another Cookie they are
// gone to the old one, be they 0, and the rule counts from 0.
func TestModifyCounts(t *testing.T) {
	a, b, c := dst(3, 1, 7), dst(2, 2, 8), dst(1, 3, 9)
	x := with(t, a, b, c)
	find(t, x, to(1), 10, a)
	find(t, x, to(2), 20, b)
	do(t, x, api.RuleModify, out(all(0, 7), 4), 3)
	b.Cookie, c.Cookie = 7, 7
	holds(t, x, has(out(a, 4), 1, 10), has(out(b, 4), 0, 0), has(out(c, 4), 0, 0))
	isGone(t, x, lost(8, 1, 20), lost(9, 0, 0))

	find(t, x, to(2), 5, out(b, 4))
	do(t, x, api.RuleModify, dst(0, 2, 8), 1)
	b.Cookie = 8
	holds(t, x, has(out(a, 4), 1, 10), has(b, 0, 0), has(out(c, 4), 0, 0))
	isGone(t, x, lost(7, 1, 5), lost(8, 1, 20), lost(9, 0, 0))
	find(t, x, to(2), 2, b)
	holds(t, x, has(out(a, 4), 1, 10), has(b, 1, 2), has(out(c, 4), 0, 0))
}

// P11.2, RuleModify: a rule keeps its Rank, its Match and its turn.
func TestModifyKeepsTurn(t *testing.T) {
	a, b := dst(1, 1, 1), all(1, 2)
	x := with(t, a, b)
	do(t, x, api.RuleModify, api.Rule{Rank: 5, Match: a.Match, Cookie: 3}, 1)
	a.Cookie = 3
	holds(t, x, has(a, 0, 0), has(b, 0, 0))
	find(t, x, to(1), 1, a)
	find(t, x, to(2), 1, b)
	do(t, x, api.RuleStrict, a, 1)
	find(t, x, to(1), 1, b)
}

// P11.2, RuleModify makes no rules.
func TestModifyMakesNone(t *testing.T) {
	x := New(4)
	do(t, x, api.RuleModify, dst(1, 1, 1), 0)
	holds(t, x)
	do(t, x, api.RuleAdd, all(1, 1), 1)
	do(t, x, api.RuleModify, dst(1, 1, 2), 0)
	holds(t, x, has(all(1, 1), 0, 0))
	isGone(t, x)
}

// P11.2, RuleDelete: all under the match go, of whatever Rank, Cookie and
// Copies; those that only touch it, or lie above it, stay.
func TestDelete(t *testing.T) {
	a, b, c, d := dst(1, 1, 1), dst(2, 1, 2), dst(1, 2, 3), all(1, 4)
	e := api.Rule{Rank: 1, Match: on(api.Src, 1, full48), Cookie: 5}
	x := with(t, a, b, c, d, e)
	find(t, x, to(1), 9, b)
	do(t, x, api.RuleDelete, out(dst(77, 1, 88), 9), 2)
	holds(t, x, has(c, 0, 0), has(d, 0, 0), has(e, 0, 0))
	isGone(t, x, lost(1, 0, 0), lost(2, 1, 9))
	find(t, x, to(1), 1, d)
	do(t, x, api.RuleDelete, dst(1, 1, 1), 0)
	isGone(t, x, lost(1, 0, 0), lost(2, 1, 9))
	do(t, x, api.RuleDelete, api.Rule{Match: on(api.Dst, 0, 1)}, 1)
	holds(t, x, has(d, 1, 1), has(e, 0, 0))
	do(t, x, api.RuleDelete, api.Rule{Rank: math.MinInt}, 2)
	holds(t, x)
	isGone(t, x, lost(1, 0, 0), lost(2, 1, 9), lost(3, 0, 0), lost(4, 1, 1), lost(5, 0, 0))
	findNone(t, x, to(1), 1)
}

// P11.2, RuleStrict: of the place alone, whatever Cookie and Copies are.
func TestStrict(t *testing.T) {
	a, b, c := dst(1, 1, 1), dst(2, 1, 2), all(1, 3)
	x := with(t, a, b, c)
	find(t, x, to(1), 6, b)
	do(t, x, api.RuleStrict, dst(3, 1, 1), 0)
	do(t, x, api.RuleStrict, dst(1, 2, 1), 0)
	do(t, x, api.RuleStrict, all(2, 2), 0)
	isGone(t, x)
	do(t, x, api.RuleStrict, out(dst(2, 1, 99), 4), 1)
	holds(t, x, has(a, 0, 0), has(c, 0, 0))
	isGone(t, x, lost(2, 1, 6))
	do(t, x, api.RuleStrict, b, 0)
	do(t, x, api.RuleStrict, all(1, 0), 1)
	holds(t, x, has(a, 0, 0))
	isGone(t, x, lost(2, 1, 6), lost(3, 0, 0))
	findNone(t, x, to(2), 1)
}

// P11.3: the greatest Rank is found, then the one that was added first; only
// the rule that is told counts.
func TestFind(t *testing.T) {
	a, b, c := all(math.MinInt, 1), dst(0, 1, 2), api.Rule{Match: on(api.Dst, 1, 1), Cookie: 3}
	d := api.Rule{Rank: math.MaxInt, Match: on(api.Dst, 5, full48), Cookie: 4}
	x := with(t, a, b, c, d)
	find(t, x, to(1), 1, b)
	find(t, x, to(3), 2, c)
	find(t, x, to(5), 3, d)
	find(t, x, to(2), 4, a)
	find(t, x, to(4), 5, a)
	holds(t, x, has(d, 1, 3), has(b, 1, 1), has(c, 1, 2), has(a, 2, 9))
	isGone(t, x)
}

// P11.3: where none is told nothing counts.
func TestFindNone(t *testing.T) {
	x := with(t, dst(1, 1, 1))
	findNone(t, x, to(2), 60)
	findNone(t, x, api.Header{api.Src: 1}, 60)
	holds(t, x, has(dst(1, 1, 1), 0, 0))
	isGone(t, x)
}

// P11.3: any numbers make a header here, as match.Hits takes them.
func TestFindAnyHeader(t *testing.T) {
	r := api.Rule{Match: on(api.Vlan, 0xfff, 0xfff)}
	x := with(t, r)
	find(t, x, only(api.Vlan, math.MaxUint64), 1, r)
	h := only(api.Vlan, 0x1fff)
	h[api.Switch] = math.MaxUint64
	find(t, x, h, 1, r)
	findNone(t, x, only(api.Vlan, math.MaxUint64-1), 1)
}

// P11.3: bytes below 0 count as 0, but the packet counts.
func TestFindBytes(t *testing.T) {
	r := all(1, 1)
	x := with(t, r)
	steps := []struct {
		bytes int
		want  uint64
	}{
		{0, 0}, {1, 1}, {-1, 1}, {math.MinInt, 1}, {1514, 1515}, {math.MaxInt, math.MaxInt64 + 1515},
	}
	for i, s := range steps {
		find(t, x, to(1), s.bytes, r)
		holds(t, x, has(r, uint64(i+1), s.want))
	}
}

// Counts stay at 2^64 - 1: a rule's bytes.
func TestBytesStayAtTheEnd(t *testing.T) {
	r := all(1, 1)
	x := with(t, r)
	steps := []struct {
		bytes int
		want  uint64
	}{
		{math.MaxInt, math.MaxInt64}, {math.MaxInt, math.MaxUint64 - 1}, {0, math.MaxUint64 - 1},
		{1, math.MaxUint64}, {0, math.MaxUint64}, {1, math.MaxUint64}, {math.MaxInt, math.MaxUint64},
	}
	for i, s := range steps {
		find(t, x, to(1), s.bytes, r)
		holds(t, x, has(r, uint64(i+1), s.want))
	}
	do(t, x, api.RuleAdd, r, 1)
	for range 2 {
		find(t, x, to(1), math.MaxInt, r)
	}
	find(t, x, to(1), 2, r)
	holds(t, x, has(r, 3, math.MaxUint64))
}

// Counts stay at 2^64 - 1: a rule's packets, which no test can find so often.
func TestPacketsStayAtTheEnd(t *testing.T) {
	r := all(1, 1)
	x := with(t, r)
	x.ofPlace(r)[0].Packets = math.MaxUint64 - 2
	for _, want := range []uint64{math.MaxUint64 - 1, math.MaxUint64, math.MaxUint64, math.MaxUint64} {
		find(t, x, to(1), 3, r)
		if l := x.Helds(); l[0].Counts.Packets != want {
			t.Errorf("%d packets, not %d", l[0].Counts.Packets, want)
		}
	}
	holds(t, x, has(r, math.MaxUint64, 12))
}

// Counts stay at 2^64 - 1: what is gone of one Cookie, together.
func TestGoneStaysAtTheEnd(t *testing.T) {
	a, b, c := dst(1, 1, 7), dst(1, 2, 7), dst(1, 3, 7)
	x := with(t, a, b, c)
	x.ofPlace(a)[0].Counts = api.Counts{Packets: math.MaxUint64 - 5, Bytes: 4}
	x.ofPlace(b)[0].Counts = api.Counts{Packets: 5, Bytes: math.MaxUint64 - 5}
	x.ofPlace(c)[0].Counts = api.Counts{Packets: 1, Bytes: 2}
	do(t, x, api.RuleStrict, a, 1)
	isGone(t, x, lost(7, math.MaxUint64-5, 4))
	do(t, x, api.RuleModify, dst(1, 2, 8), 1)
	isGone(t, x, lost(7, math.MaxUint64, math.MaxUint64-1))
	do(t, x, api.RuleDelete, c, 1)
	isGone(t, x, lost(7, math.MaxUint64, math.MaxUint64))
}

// P11.4: by falling Rank, of one Rank in the order in which they were added.
func TestHeldsOrder(t *testing.T) {
	ranks := []int{0, math.MinInt, 5, math.MaxInt, -1, 0, math.MaxInt - 1, 5, math.MinInt + 1, 0}
	x := New(20)
	for i, rank := range ranks {
		do(t, x, api.RuleAdd, dst(rank, uint64(20-i), uint64(i)), 1)
	}
	var want []api.Held
	for _, i := range []int{3, 6, 2, 7, 0, 5, 9, 4, 8, 1} {
		want = append(want, has(dst(ranks[i], uint64(20-i), uint64(i)), 0, 0))
	}
	holds(t, x, want...)
	holds(t, x, want...)
}

// P11.5: by rising Cookies, at the ends of their width too; a Held has the
// Cookie and the counts alone.
func TestGoneOrder(t *testing.T) {
	cookies := []uint64{7, math.MaxUint64, 0, 1 << 63, 1<<63 - 1, 1, 7 << 32}
	x := New(20)
	for i, cookie := range cookies {
		do(t, x, api.RuleAdd, out(dst(i, uint64(i), cookie), 2), 1)
		find(t, x, to(uint64(i)), i, out(dst(i, uint64(i), cookie), 2))
	}
	isGone(t, x)
	do(t, x, api.RuleDelete, all(0, 0), len(cookies))
	want := []api.Held{
		lost(0, 1, 2), lost(1, 1, 5), lost(7, 1, 0), lost(7<<32, 1, 6),
		lost(1<<63-1, 1, 4), lost(1<<63, 1, 3), lost(math.MaxUint64, 1, 1),
	}
	isGone(t, x, want...)
	isGone(t, x, want...)
}

// P11.7: a delete of the match that hits everything leaves nothing, whatever
// the Rank it is told with.
func TestDeleteEverything(t *testing.T) {
	for _, rank := range []int{math.MinInt, 0, math.MaxInt} {
		x := New(1024)
		for n := range 1024 {
			r := api.Rule{Rank: n%7 - 3, Match: on(n%api.Fields, uint64(n)&0xff, 0xff)}
			if _, e := x.Do(api.RuleAdd, r); e != api.OK {
				t.Fatal(e)
			}
		}
		n := len(x.Helds())
		do(t, x, api.RuleDelete, api.Rule{Rank: rank}, n)
		holds(t, x)
		do(t, x, api.RuleDelete, api.Rule{Rank: rank}, 0)
		if len(x.rules) != 0 || len(x.places) != 0 || x.masks.Rows() != 0 {
			t.Error("something is kept of what is gone")
		}
	}
}
