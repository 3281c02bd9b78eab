package tuples

import (
	"math"
	"math/rand"
	"reflect"
	"slices"
	"testing"

	"tollbridge/api"
	"tollbridge/match"
)

const (
	full48 = 1<<48 - 1
	full32 = 1<<32 - 1
)

// bits of the fields, written out once more so as not to lean on what is tested.
var widths = [api.Fields]int{48, 48, 16, 12, 32, 32, 8, 16, 16, 16, 16}

// only is a header with that one field.
func only(field int, value uint64) api.Header {
	var h api.Header
	h[field] = value
	return h
}

// on is a rule of that rank over one field.
func on(rank, field int, value, mask uint64) api.Rule {
	return api.Rule{Rank: rank, Match: api.Match{Value: only(field, value), Mask: only(field, mask)}}
}

// dst is a rule of that rank for one Dst.
func dst(rank int, value uint64) api.Rule {
	return on(rank, api.Dst, value, full48)
}

// to is a header with that Dst.
func to(value uint64) api.Header {
	return api.Header{api.Dst: value}
}

func add(t *testing.T, x *Table, want int, r api.Rule) {
	t.Helper()
	if n, e := x.Add(r); n != want || e != api.OK {
		t.Fatalf("Add: %d, %v, not %d", n, e, want)
	}
}

func refuse(t *testing.T, x *Table, want api.Errno, r api.Rule) {
	t.Helper()
	if n, e := x.Add(r); n != 0 || e != want {
		t.Errorf("Add: %d, %v, not 0, %v", n, e, want)
	}
}

// find asks for h: 0 stands for none.
func find(t *testing.T, x *Table, h api.Header, want int) {
	t.Helper()
	if n, ok := x.Find(h); n != want || ok != (want != 0) {
		t.Errorf("Find(%v): %d, %t, not %d", h, n, ok, want)
	}
}

func drop(t *testing.T, x *Table, id int, want bool) {
	t.Helper()
	if there := x.Drop(id); there != want {
		t.Errorf("Drop(%d): %t", id, there)
	}
}

func rows(t *testing.T, x *Table, want int) {
	t.Helper()
	if n := x.Rows(); n != want {
		t.Errorf("Rows: %d, not %d", n, want)
	}
}

// The chapter's examples.
func TestExamples(t *testing.T) {
	x := New()
	a, b, c := dst(5, 1), on(7, api.Dst, 0, full48-3), api.Rule{Rank: 5}
	add(t, x, 1, a)
	add(t, x, 2, b)
	add(t, x, 3, c)
	find(t, x, to(1), 2)
	find(t, x, to(4), 3)
	rows(t, x, 3)

	drop(t, x, 2, true)
	drop(t, x, 2, false)
	find(t, x, to(1), 1)

	add(t, x, 4, a)
	find(t, x, to(1), 1)
}

// P9.1: a new table has no rules, and two of them have nothing in common.
func TestNewHasNoRules(t *testing.T) {
	x, y := New(), New()
	if x == nil || y == nil {
		t.Fatal("no table")
	}
	find(t, x, api.Header{}, 0)
	rows(t, x, 0)
	for _, id := range []int{-1, 0, 1, 2} {
		drop(t, x, id, false)
	}
	add(t, x, 1, api.Rule{})
	find(t, x, api.Header{}, 1)
	find(t, y, api.Header{}, 0)
	rows(t, y, 0)
	drop(t, y, 1, false)
	add(t, y, 1, dst(0, 1))
	drop(t, y, 1, true)
	find(t, x, api.Header{}, 1)
}

// P9.1, R1: no table answers ErrNil, false, none and 0, whatever it is handed.
func TestNoTable(t *testing.T) {
	var x *Table
	for _, r := range []api.Rule{{}, dst(1, 1), on(1, api.Dst, 1, 0)} {
		refuse(t, x, api.ErrNil, r)
	}
	for _, id := range []int{math.MinInt, -1, 0, 1, math.MaxInt} {
		drop(t, x, id, false)
	}
	find(t, x, api.Header{}, 0)
	find(t, x, to(math.MaxUint64), 0)
	rows(t, x, 0)
}

// P9.2: a rule has a number of its own: 1 and how many were added ahead,
// whether those are still there or not. What was refused was not added.
func TestNumbers(t *testing.T) {
	x := New()
	add(t, x, 1, dst(1, 1))
	add(t, x, 2, dst(1, 1))
	drop(t, x, 2, true)
	add(t, x, 3, dst(1, 2))
	refuse(t, x, api.ErrMatch, on(1, api.Dst, 1, 0))
	add(t, x, 4, api.Rule{})
	for _, id := range []int{1, 3, 4} {
		drop(t, x, id, true)
	}
	rows(t, x, 0)
	add(t, x, 5, dst(1, 1))
	for id := -1; id < 8; id++ {
		drop(t, x, id, id == 5)
	}
}

// P9.2: what is no match is refused, in every field, by a mask that is too wide
// and by a value that the mask does not have; the widest ones are taken.
func TestAddTakesMatchesAlone(t *testing.T) {
	for field, width := range widths {
		whole := uint64(1)<<width - 1
		x := New()
		add(t, x, 1, on(0, field, whole, whole))
		add(t, x, 2, on(0, field, 0, whole))
		add(t, x, 3, on(0, field, 1<<(width-1), 1<<(width-1)))
		refuse(t, x, api.ErrMatch, on(0, field, 0, whole+1))
		refuse(t, x, api.ErrMatch, on(0, field, whole+1, whole+1))
		refuse(t, x, api.ErrMatch, on(0, field, 0, math.MaxUint64))
		refuse(t, x, api.ErrMatch, on(0, field, 1, 0))
		refuse(t, x, api.ErrMatch, on(0, field, whole, whole-1))
		refuse(t, x, api.ErrMatch, on(0, field, whole+1, whole))
		rows(t, x, 2)
		find(t, x, only(field, whole), 1)
		find(t, x, api.Header{}, 2)
		add(t, x, 4, dst(0, 9))
	}
}

// P9.2: 1024 rules there may be, and not one more; it is refused behind ErrMatch,
// and once one was dropped there is room again.
func TestFull(t *testing.T) {
	if api.MaxRules != 1024 {
		t.Fatal(api.MaxRules)
	}
	kinds := map[string]func(i int) api.Rule{
		"one place":  func(i int) api.Rule { return api.Rule{Rank: 3} },
		"one mask":   func(i int) api.Rule { return dst(3, uint64(i)) },
		"many masks": func(i int) api.Rule { return on(i, api.Dst, 0, uint64(i)<<8) },
	}
	for name, kind := range kinds {
		t.Run(name, func(t *testing.T) {
			x := New()
			for i := range api.MaxRules {
				add(t, x, i+1, kind(i))
			}
			was := x.Rows()
			refuse(t, x, api.ErrFull, kind(0))
			refuse(t, x, api.ErrFull, api.Rule{Rank: math.MaxInt})
			refuse(t, x, api.ErrMatch, on(math.MaxInt, api.Dst, 1, 0))
			rows(t, x, was)
			if n, ok := x.Find(to(full48)); n > 1024 || ok && n == 0 {
				t.Errorf("what was refused is found: %d", n)
			}
			drop(t, x, 500, true)
			drop(t, x, 500, false)
			add(t, x, 1025, api.Rule{Rank: math.MaxInt})
			find(t, x, to(full48), 1025)
			refuse(t, x, api.ErrFull, kind(0))
			for id := 1; id <= 1025; id++ {
				drop(t, x, id, id != 500)
			}
			rows(t, x, 0)
			find(t, x, api.Header{}, 0)
			add(t, x, 1026, kind(0))
		})
	}
}

// P9.2: a rule that was dropped is in the table no more, and takes none of the
// others with it, those of the same place neither.
func TestDrop(t *testing.T) {
	x := New()
	for id := 1; id <= 4; id++ {
		add(t, x, id, dst(2, 1))
	}
	add(t, x, 5, dst(2, 2))
	for _, step := range []struct{ id, then int }{{2, 1}, {1, 3}, {4, 3}, {3, 0}} {
		drop(t, x, step.id, true)
		drop(t, x, step.id, false)
		find(t, x, to(1), step.then)
		find(t, x, to(2), 5)
	}
	for _, id := range []int{math.MinInt, -5, 0, 6, math.MaxInt} {
		drop(t, x, id, false)
	}
	find(t, x, to(2), 5)
}

// P9.3: a match hits where the header has its bits, whatever else the header
// has, bits beyond its widths too.
func TestFindByBits(t *testing.T) {
	x := New()
	add(t, x, 1, on(0, api.To, 0x0a000000, 0xff000000))
	add(t, x, 2, on(1, api.To, 0x0a0b0000, 0xffff0000))
	add(t, x, 3, on(2, api.To, 1, 1))
	for _, f := range []struct {
		to   uint64
		want int
	}{
		{0x0a000000, 1}, {0x0afffffe, 1}, {0x0a0b0000, 2}, {0x0a0bfffe, 2}, {0x0a0c0000, 1},
		{0x0a0b0001, 3}, {0x0b000001, 3}, {0x0b000000, 0}, {0, 0},
		{1<<32 | 0x0a0b0002, 2}, {math.MaxUint64, 3}, {math.MaxUint64 - 1, 0},
	} {
		find(t, x, api.Header{api.To: f.to}, f.want)
		find(t, x, api.Header{api.To: f.to, api.Src: math.MaxUint64, api.Switch: math.MaxUint64}, f.want)
		find(t, x, api.Header{api.From: f.to}, 0)
	}
}

// P9.3: every field alone tells headers from one another.
func TestFindByEachField(t *testing.T) {
	x := New()
	for field, width := range widths {
		add(t, x, field+1, on(field, field, 1<<(width-1), 1<<width-1))
	}
	rows(t, x, api.Fields)
	for field, width := range widths {
		find(t, x, only(field, 1<<(width-1)), field+1)
		find(t, x, only(field, 1<<(width-1)|1<<width), field+1)
		find(t, x, only(field, 1<<(width-2)), 0)
	}
}

// P9.3: a rule over several fields hits where all of them are as it says.
func TestFindOverSeveralFields(t *testing.T) {
	x := New()
	m := api.Match{
		Value: api.Header{api.Kind: 0x800, api.Proto: 6, api.DPort: 80},
		Mask:  api.Header{api.Kind: 0xffff, api.Proto: 0xff, api.DPort: 0xffff},
	}
	add(t, x, 1, api.Rule{Rank: 1, Match: m})
	find(t, x, api.Header{api.Kind: 0x800, api.Proto: 6, api.DPort: 80, api.SPort: 9}, 1)
	find(t, x, api.Header{api.Kind: 0x801, api.Proto: 6, api.DPort: 80}, 0)
	find(t, x, api.Header{api.Kind: 0x800, api.Proto: 7, api.DPort: 80}, 0)
	find(t, x, api.Header{api.Kind: 0x800, api.Proto: 6, api.DPort: 81}, 0)
}

// P9.3: Ranks are any numbers, the greatest is found, in one row and in several.
func TestGreatestRank(t *testing.T) {
	ranks := []int{0, math.MinInt, -1, math.MaxInt, 1, math.MinInt + 1, math.MaxInt - 1}
	masks := map[string]func(i int) uint64{
		"one mask":   func(int) uint64 { return full48 },
		"many masks": func(i int) uint64 { return full48 &^ (1 << i) },
	}
	for name, mask := range masks {
		t.Run(name, func(t *testing.T) {
			x := New()
			for i, rank := range ranks {
				add(t, x, i+1, on(rank, api.Dst, 1<<40, mask(i)))
			}
			for _, id := range []int{4, 7, 5, 1, 3, 6, 2} {
				find(t, x, to(1<<40), id)
				drop(t, x, id, true)
			}
			find(t, x, to(1<<40), 0)
		})
	}
}

// P9.3: of one Rank the one that was added first is found, be it of the same
// match, of the same mask, or of another one, in whatever order rows stand.
func TestFirstOfOneRank(t *testing.T) {
	wide, narrow := on(5, api.Dst, 0, full48-3), dst(5, 1)
	for _, list := range [][]api.Rule{
		{wide, narrow, {Rank: 5}},
		{narrow, wide, {Rank: 5}},
		{{Rank: 5}, narrow, wide},
		{narrow, narrow, wide, wide, {Rank: 5}, {Rank: 5}, narrow},
	} {
		x := New()
		for i, r := range list {
			add(t, x, i+1, r)
			find(t, x, to(1), 1)
		}
		for i := range list {
			find(t, x, to(1), i+1)
			drop(t, x, i+1, true)
		}
		find(t, x, to(1), 0)
	}
}

// P9.3: a row of a great Rank that does not hit hides no lesser one, and its
// place is another one once the great one is gone.
func TestRowsChangePlaces(t *testing.T) {
	x := New()
	add(t, x, 1, dst(9, 7))
	add(t, x, 2, dst(1, 1))
	add(t, x, 3, on(5, api.Dst, 1, 1))
	find(t, x, to(1), 3)
	find(t, x, to(7), 1)
	drop(t, x, 1, true)
	find(t, x, to(7), 3)
	find(t, x, to(1), 3)
	add(t, x, 4, dst(6, 1))
	find(t, x, to(1), 4)
	find(t, x, to(3), 3)
	drop(t, x, 4, true)
	find(t, x, to(1), 3)
	drop(t, x, 3, true)
	find(t, x, to(1), 2)
}

// P9.4: unlike Masks are counted, not Values, Ranks or rules; a Mask counts
// till its last rule is gone.
func TestRows(t *testing.T) {
	x := New()
	steps := []struct {
		r    api.Rule
		want int
	}{
		{dst(1, 1), 1},
		{dst(1, 2), 1},
		{dst(2, 1), 1},
		{dst(1, 1), 1},
		{on(1, api.Dst, 0, full48-1), 2},
		{api.Rule{Rank: 1}, 3},
		{api.Rule{Rank: -1}, 3},
		{on(1, api.Src, 1, full48), 4},
	}
	for i, s := range steps {
		add(t, x, i+1, s.r)
		rows(t, x, s.want)
	}
	for _, s := range []struct{ id, want int }{{1, 4}, {3, 4}, {6, 4}, {7, 3}, {2, 3}, {4, 2}, {8, 1}, {5, 0}} {
		drop(t, x, s.id, true)
		rows(t, x, s.want)
		drop(t, x, s.id, false)
		rows(t, x, s.want)
	}
}

// P9.5: rules that a rule found ahead covers make no difference.
func TestCoveredRules(t *testing.T) {
	x, y := New(), New()
	above := on(5, api.To, 0x0a000000, 0xff000000)
	add(t, x, 1, above)
	add(t, y, 1, above)
	add(t, y, 2, on(4, api.To, 0x0a0b0000, 0xffff0000))
	add(t, y, 3, on(5, api.To, 0x0a0b0c0d, full32))
	add(t, y, 4, on(5, api.To, 0x0a000000, 0xff000000))
	for _, n := range []uint64{0, 0x0a000000, 0x0a0b0c0d, 0x0a0b0000, 0x0b000000} {
		h := api.Header{api.To: n}
		want, _ := x.Find(h)
		find(t, y, h, want)
	}
}

// plain is a table of the chapter's words: rules in a list, gone through one by
// one.
type plain struct {
	added int
	list  []numbered
}

type numbered struct {
	id int
	r  api.Rule
}

func (p *plain) Add(r api.Rule) (int, api.Errno) {
	if match.Check(r.Match) != api.OK {
		return 0, api.ErrMatch
	}
	if len(p.list) == 1024 {
		return 0, api.ErrFull
	}
	p.added++
	p.list = append(p.list, numbered{p.added, r})
	return p.added, api.OK
}

func (p *plain) Drop(id int) bool {
	was := len(p.list)
	p.list = slices.DeleteFunc(p.list, func(n numbered) bool { return n.id == id })
	return len(p.list) < was
}

func (p *plain) Find(h api.Header) (int, bool) {
	id, rank := 0, 0
	for _, n := range p.list {
		if match.Hits(n.r.Match, h) && (id == 0 || n.r.Rank > rank) {
			id, rank = n.id, n.r.Rank
		}
	}
	return id, id != 0
}

func (p *plain) Rows() int {
	masks := map[api.Header]bool{}
	for _, n := range p.list {
		masks[n.r.Match.Mask] = true
	}
	return len(masks)
}

// some is a rule out of few ones, so that rules often are alike in part; now
// and then it is none.
func some(g *rand.Rand) api.Rule {
	masks := []uint64{0, 0, 1, 2, 3, 6, 7, 15}
	var m api.Match
	for _, field := range []int{api.Dst, api.To, api.Port} {
		m.Mask[field] = masks[g.Intn(len(masks))]
		m.Value[field] = uint64(g.Intn(16)) & m.Mask[field]
	}
	if g.Intn(40) == 0 {
		m.Value[g.Intn(api.Fields)] |= 1 << g.Intn(64)
	}
	ranks := []int{math.MinInt, -1, 0, 1, 2, 3, math.MaxInt}
	return api.Rule{Rank: ranks[g.Intn(len(ranks))], Match: m}
}

func someHeader(g *rand.Rand) api.Header {
	return api.Header{
		api.Dst: uint64(g.Intn(16)), api.To: uint64(g.Intn(16)), api.Port: uint64(g.Intn(16)),
		api.Src: g.Uint64(), api.Switch: g.Uint64(),
	}
}

// P9.5: whatever is added and dropped in whatever order, all answers are those
// of the plain table.
func TestAgainstPlain(t *testing.T) {
	for seed := range int64(60) {
		g := rand.New(rand.NewSource(seed))
		x, p := New(), &plain{}
		room := 1 + g.Intn(60)
		for step := range 400 {
			if g.Intn(3) > 0 && len(p.list) < room {
				r := some(g)
				n, e := x.Add(r)
				if wn, we := p.Add(r); n != wn || e != we {
					t.Fatalf("seed %d, step %d: Add: %d, %v, not %d, %v", seed, step, n, e, wn, we)
				}
			} else {
				id := g.Intn(p.added+3) - 1
				if len(p.list) > 0 && g.Intn(4) > 0 {
					id = p.list[g.Intn(len(p.list))].id
				}
				there := x.Drop(id)
				if want := p.Drop(id); there != want {
					t.Fatalf("seed %d, step %d: Drop(%d): %t", seed, step, id, there)
				}
			}
			alike(t, g, x, p)
			inOrder(t, x)
			if t.Failed() {
				t.Fatalf("seed %d, step %d", seed, step)
			}
		}
	}
}

func alike(t *testing.T, g *rand.Rand, x *Table, p *plain) {
	t.Helper()
	rows(t, x, p.Rows())
	for range 8 {
		h := someHeader(g)
		want, _ := p.Find(h)
		find(t, x, h, want)
	}
}

// inOrder: rows stand by falling tops, each with the greatest Rank in it, and
// nothing of what was dropped is kept.
func inOrder(t *testing.T, x *Table) {
	t.Helper()
	held := 0
	for i, w := range x.rows {
		if i > 0 && w.top > x.rows[i-1].top {
			t.Errorf("row %d stands too far behind", i)
		}
		top := math.MinInt
		for _, cell := range w.cells {
			for _, e := range cell {
				top = max(top, e.rank)
			}
			if len(cell) == 0 {
				t.Errorf("row %d has an empty cell", i)
			}
			held += len(cell)
		}
		if top != w.top || len(w.cells) == 0 {
			t.Errorf("row %d: its top is %d, not %d", i, w.top, top)
		}
	}
	if held != len(x.matches) {
		t.Errorf("%d rules stand in rows, %d by their numbers", held, len(x.matches))
	}
}

// Ways: a search ends as soon as no row can have a greater one: what is planted
// into a row behind that is not come upon.
func TestSearchEnds(t *testing.T) {
	x := New()
	add(t, x, 1, dst(5, 1))
	add(t, x, 2, on(4, api.Dst, 1, 1))
	x.rows[1].cells[to(1)][0].rank = 6
	find(t, x, to(1), 1)
	find(t, x, to(3), 2)
	x.rows[1].top = 5
	find(t, x, to(1), 2)
}

// R2: the same calls answer the same, however the maps are gone through.
func TestSameAgain(t *testing.T) {
	run := func() []int {
		g := rand.New(rand.NewSource(7))
		x := New()
		var told []int
		for range 300 {
			x.Add(some(g))
			x.Drop(g.Intn(200))
			n, _ := x.Find(someHeader(g))
			told = append(told, n, x.Rows())
		}
		return told
	}
	first := run()
	for range 5 {
		if !slices.Equal(run(), first) {
			t.Fatal("not the same")
		}
	}
}

// R3: a rule that is handed in is not changed, with the room behind the ends of
// its lists, and not kept: writing there later changes nothing.
func TestRuleIsLeftAlone(t *testing.T) {
	acts := []api.Action{{Do: api.ActOut, N: 1}, {Do: api.ActPunt}, {Do: api.ActOut, N: 3}}
	copies := [][]api.Action{acts[:1], nil, acts[1:2]}
	r := dst(1, 1)
	r.Copies = copies[:2]
	r.Cookie = 9
	x := New()
	add(t, x, 1, r)
	refuse(t, x, api.ErrMatch, api.Rule{Match: api.Match{Value: to(1)}, Copies: copies[:2]})
	if !reflect.DeepEqual(acts, []api.Action{{Do: api.ActOut, N: 1}, {Do: api.ActPunt}, {Do: api.ActOut, N: 3}}) {
		t.Errorf("%v", acts)
	}
	if len(copies[0]) != 1 || copies[1] != nil || len(copies[2]) != 1 || r.Rank != 1 || r.Cookie != 9 || r.Match != dst(1, 1).Match {
		t.Errorf("%v", r)
	}
	acts[0] = api.Action{}
	copies[0] = nil
	r.Match = api.Match{}
	r.Rank = 5
	find(t, x, to(1), 1)
	find(t, x, to(2), 0)
}

// P9.3: Copies and Cookie play no part.
func TestCopiesPlayNoPart(t *testing.T) {
	x := New()
	a, b := dst(1, 1), dst(1, 1)
	a.Copies, a.Cookie = [][]api.Action{{{Do: 99, Field: -7}}}, 3
	b.Copies, b.Cookie = [][]api.Action{}, math.MaxUint64
	add(t, x, 1, a)
	add(t, x, 2, b)
	find(t, x, to(1), 1)
	rows(t, x, 1)
	drop(t, x, 1, true)
	find(t, x, to(1), 2)
}

// R4: what is refused changes nothing that can be asked.
func TestRefusedIsNothing(t *testing.T) {
	g := rand.New(rand.NewSource(3))
	x, p := New(), &plain{}
	for range 200 {
		r := some(g)
		x.Add(r)
		p.Add(r)
		refuse(t, x, api.ErrMatch, on(math.MaxInt, g.Intn(api.Fields), 1, 0))
		drop(t, x, -1, false)
		alike(t, g, x, p)
	}
}
