package diagram

import (
	"math"
	"slices"
	"testing"

	"tollbridge/api"
	"tollbridge/nodes"
)

// leaf is a store's leaf of these rows.
func leaf(t *testing.T, s *nodes.Store, rows ...[]api.Action) int {
	t.Helper()
	id, e := s.Leaf(rows)
	if e != api.OK {
		t.Fatal("a leaf:", e)
	}
	return id
}

// ask is a store's test.
func ask(t *testing.T, s *nodes.Store, field int, n uint64, hi, lo int) int {
	t.Helper()
	id, e := s.Test(int8(field), n, hi, lo)
	if e != api.OK {
		t.Fatal("a test:", e)
	}
	return id
}

// sets is a row of settings: a field, its number, and so on.
func sets(list ...uint64) []api.Action {
	var row []api.Action
	for i := 0; i+1 < len(list); i += 2 {
		row = append(row, api.Action{Field: int8(list[i]), N: list[i+1]})
	}
	return row
}

// is is a predicate's diagram: a field is n.
func is(t *testing.T, s *nodes.Store, field int, n uint64) int {
	t.Helper()
	return ask(t, s, field, n, leaf(t, s, nil), leaf(t, s))
}

// step sets a field to one number, where it is another.
func step(t *testing.T, s *nodes.Store, field int, from, to uint64) int {
	t.Helper()
	return ask(t, s, field, from, leaf(t, s, sets(uint64(field), to)), leaf(t, s))
}

// chain sets a field to the next number, where it is from 1 to n.
func chain(t *testing.T, s *nodes.Store, field int, n uint64) int {
	t.Helper()
	at := leaf(t, s)
	for ; n >= 1; n-- {
		at = ask(t, s, field, n, leaf(t, s, sets(uint64(field), n+1)), at)
	}
	return at
}

func made(t *testing.T) func(id int, e api.Errno) int {
	return func(id int, e api.Errno) int {
		t.Helper()
		if e != api.OK {
			t.Fatal("refused:", e)
		}
		return id
	}
}

func wantRun(t *testing.T, s *nodes.Store, id int, h api.Header, want ...api.Header) {
	t.Helper()
	if got, e := Run(s, id, h); e != api.OK || !slices.Equal(got, want) {
		t.Errorf("Run(%d, %v) is %v, %v, want %v", id, h, got, e, want)
	}
}

// wantPorts runs a diagram of a header whose Port alone is not 0.
func wantPorts(t *testing.T, s *nodes.Store, id int, port uint64, want ...uint64) {
	t.Helper()
	var list []api.Header
	for _, p := range want {
		list = append(list, api.Header{api.Port: p})
	}
	wantRun(t, s, id, api.Header{api.Port: port}, list...)
}

func wantSame(t *testing.T, what string, want int) func(id int, e api.Errno) {
	return func(id int, e api.Errno) {
		t.Helper()
		if id != want || e != api.OK {
			t.Errorf("%s: %d, %v, want %d", what, id, e, want)
		}
	}
}

func wantError(t *testing.T, what string, want api.Errno) func(id int, e api.Errno) {
	return func(id int, e api.Errno) {
		t.Helper()
		if id != 0 || e != want {
			t.Errorf("%s: %d, %v, want 0, %v", what, id, e, want)
		}
	}
}

// The chapter's examples, and the third one of the whole.
func TestExamples(t *testing.T) {
	s := nodes.New()
	a := step(t, s, api.Port, 1, 2)
	wantPorts(t, s, made(t)(Star(s, a)), 1, 1, 2)
	wantPorts(t, s, made(t)(Star(s, a)), 2, 2)
	wantPorts(t, s, made(t)(Then(s, a, a)), 1)
	not := made(t)(Not(s, is(t, s, api.Port, 1)))
	both := made(t)(Union(s, a, not))
	wantPorts(t, s, both, 5, 5)
	wantPorts(t, s, both, 1, 2)
	wantError(t, "Not(a)", api.ErrPolicy)(Not(s, a))
	among := made(t)(Union(s, a, step(t, s, api.Port, 2, 3)))
	star := made(t)(Star(s, among))
	wantPorts(t, s, star, 1, 1, 2, 3)
	wantPorts(t, s, star, 2, 2, 3)
	wantPorts(t, s, star, 3, 3)
	wantPorts(t, s, star, 4, 4)
}

// P21.1, P21.2, in ordinary diagrams.
func TestJoined(t *testing.T) {
	s := nodes.New()
	to9 := is(t, s, api.To, 9)
	out := leaf(t, s, sets(api.Port, 2), sets(api.Port, 3))
	h, other := api.Header{api.To: 9, api.Port: 1}, api.Header{api.To: 8, api.Port: 1}
	h2, h3 := api.Header{api.To: 9, api.Port: 2}, api.Header{api.To: 9, api.Port: 3}
	then := made(t)(Then(s, to9, out))
	wantRun(t, s, then, h, h2, h3)
	wantRun(t, s, then, other)
	back := made(t)(Then(s, out, to9))
	wantRun(t, s, back, h, h2, h3)
	wantRun(t, s, back, other)
	union := made(t)(Union(s, to9, out))
	wantRun(t, s, union, h, h, h2, h3)
	wantRun(t, s, union, other, api.Header{api.To: 8, api.Port: 2}, api.Header{api.To: 8, api.Port: 3})
	set := leaf(t, s, sets(api.To, 9, api.Src, 5))
	wantRun(t, s, made(t)(Then(s, set, to9)), other, api.Header{api.Src: 5, api.To: 9, api.Port: 1})
	wantRun(t, s, made(t)(Then(s, set, made(t)(Not(s, to9)))), h)
	last := made(t)(Then(s, leaf(t, s, sets(api.Port, 7, api.Src, 6)), set))
	wantRun(t, s, last, h, api.Header{api.Src: 5, api.To: 9, api.Port: 7})
}

// What a row leaves as it is may be asked for ahead of what was asked already.
func TestAskedAhead(t *testing.T) {
	s := nodes.New()
	same := leaf(t, s, nil)
	a := ask(t, s, api.Port, 1, leaf(t, s, sets(api.Src, 4)), ask(t, s, api.Port, 2, leaf(t, s), same))
	b := ask(t, s, api.Src, 4, leaf(t, s, sets(api.Port, 8)), ask(t, s, api.Src, 5, leaf(t, s, sets(api.Port, 9)), leaf(t, s)))
	then := made(t)(Then(s, a, b))
	for _, x := range []struct{ src, port, wantSrc, wantPort uint64 }{
		{1, 1, 4, 8}, {4, 1, 4, 8}, {5, 1, 4, 8}, {1, 2, 0, 0}, {4, 2, 0, 0}, {5, 2, 0, 0},
		{1, 3, 0, 0}, {4, 3, 4, 8}, {5, 3, 5, 9}, {5, 8, 5, 9}, {4, 9, 4, 8},
	} {
		h := api.Header{api.Src: x.src, api.Port: x.port}
		if x.wantPort == 0 {
			wantRun(t, s, then, h)
		} else {
			wantRun(t, s, then, h, api.Header{api.Src: x.wantSrc, api.Port: x.wantPort})
		}
	}
}

// P21.3: which diagrams are predicates'.
func TestNot(t *testing.T) {
	s := nodes.New()
	none, one := leaf(t, s), leaf(t, s, nil)
	wantSame(t, "Not of none", one)(Not(s, none))
	wantSame(t, "Not of one", none)(Not(s, one))
	pred := ask(t, s, api.To, 1, ask(t, s, api.Port, 2, none, one), ask(t, s, api.To, 3, one, ask(t, s, api.Port, 4, one, none)))
	not := made(t)(Not(s, pred))
	for _, h := range []api.Header{{}, {api.To: 1}, {api.To: 1, api.Port: 2}, {api.To: 3}, {api.To: 3, api.Port: 4}, {api.Port: 4}, {api.Port: 2}} {
		is, _ := Run(s, pred, h)
		if len(is) == 0 {
			wantRun(t, s, not, h, h)
		} else {
			wantRun(t, s, not, h)
		}
	}
	wantSame(t, "Not of Not", pred)(Not(s, not))
	for what, rows := range map[string][][]api.Action{
		"a setting":              {sets(api.Port, 2)},
		"a setting of Port to 0": {sets(api.Port, 0)},
		"two rows":               {nil, sets(api.Port, 2)},
		"two settings":           {sets(api.Port, 2), sets(api.Port, 3)},
		"the setting of a test":  {sets(api.To, 1)},
	} {
		other := leaf(t, s, rows...)
		for _, id := range []int{
			other, ask(t, s, api.To, 1, other, none), ask(t, s, api.To, 1, one, other), ask(t, s, api.To, 1, other, one),
			ask(t, s, api.Src, 3, none, ask(t, s, api.Src, 4, one, ask(t, s, api.To, 1, ask(t, s, api.Port, 2, one, other), none))),
		} {
			count := s.Len()
			wantError(t, what, api.ErrPolicy)(Not(s, id))
			if s.Len() != count {
				t.Error(what, "left nodes behind")
			}
		}
	}
}

// P21.4: as many rounds as a star may take, and one more.
func TestStarRounds(t *testing.T) {
	s := nodes.New()
	longest := chain(t, s, api.Port, api.MaxRounds-1)
	star := made(t)(Star(s, longest))
	var all []uint64
	for p := uint64(1); p <= api.MaxRounds; p++ {
		all = append(all, p)
	}
	wantPorts(t, s, star, 1, all...)
	wantPorts(t, s, star, 60, 60, 61, 62, 63, 64)
	wantPorts(t, s, star, 64, 64)
	wantPorts(t, s, star, 65, 65)
	wantPorts(t, s, star, 0, 0)
	longer := chain(t, s, api.Port, api.MaxRounds)
	count := s.Len()
	wantError(t, "65 rounds", api.ErrTooBig)(Star(s, longer))
	if s.Len() != count {
		t.Error("a star that was refused left nodes behind")
	}
	ring := made(t)(Union(s, longest, step(t, s, api.Port, api.MaxRounds, 1)))
	wantPorts(t, s, made(t)(Star(s, ring)), 17, all...)
	wider := made(t)(Union(s, made(t)(Union(s, longest, step(t, s, api.Port, api.MaxRounds, 65))), step(t, s, api.Port, 1, 3)))
	wantPorts(t, s, made(t)(Star(s, wider)), 1, append(all, 65)...)
}

// P21.4: a row that sets what is so already is no news, however it came about.
func TestStarOfWhatIsSo(t *testing.T) {
	s := nodes.New()
	// From 1 on each number is made the next, and a row makes Dst 7, where it is 7.
	at := leaf(t, s, nil)
	for n := uint64(63); n >= 1; n-- {
		at = ask(t, s, api.Port, n, leaf(t, s, sets(api.Port, n+1), sets(api.Port, n)), at)
	}
	seven := ask(t, s, api.Dst, 7, leaf(t, s, sets(api.Dst, 7)), leaf(t, s))
	star := made(t)(Star(s, made(t)(Union(s, at, seven))))
	wantRun(t, s, star, api.Header{api.Port: 63, api.Dst: 7}, api.Header{api.Port: 63, api.Dst: 7}, api.Header{api.Port: 64, api.Dst: 7})
	// Port 64 is made 64, which only there is no news.
	last := made(t)(Union(s, chain(t, s, api.Port, 63), ask(t, s, api.Port, 64, leaf(t, s, sets(api.Port, 64)), leaf(t, s))))
	wantPorts(t, s, made(t)(Star(s, last)), 63, 63, 64)
	for n := uint64(1); n <= 3; n++ {
		id := made(t)(Star(s, leaf(t, s, sets(api.Port, n))))
		wantPorts(t, s, id, 2, slices.Compact(slices.Sorted(slices.Values([]uint64{n, 2})))...)
	}
}

// P21.4: a set of a star has no bound but that of its rounds.
func TestStarOfMany(t *testing.T) {
	s := nodes.New()
	var rows [][]api.Action
	want := []api.Header{{}}
	for n := uint64(1); n <= 500; n++ {
		rows = append(rows, sets(api.SPort, n))
		want = append(want, api.Header{api.SPort: n})
	}
	many := leaf(t, s, rows...)
	wantRun(t, s, made(t)(Star(s, many)), api.Header{}, want...)
	twice := made(t)(Then(s, many, leaf(t, s, sets(api.DPort, 1), sets(api.DPort, 2))))
	if list, e := Run(s, twice, api.Header{}); e != api.OK || len(list) != 1000 {
		t.Error(len(list), e)
	}
	one := leaf(t, s, nil)
	wantSame(t, "Star of none", one)(Star(s, leaf(t, s)))
	wantSame(t, "Star of one", one)(Star(s, one))
	wantSame(t, "Star of a predicate", one)(Star(s, is(t, s, api.Port, 1)))
}

// P21.5: a set, in order, whatever the order of the rows.
func TestRun(t *testing.T) {
	s := nodes.New()
	id := leaf(t, s, nil, sets(api.Port, 2), sets(api.Src, 1), sets(api.Src, 3, api.Port, 1), sets(api.Src, 1, api.Port, 2))
	wantRun(t, s, id, api.Header{api.Src: 2, api.Port: 9},
		api.Header{api.Src: 1, api.Port: 2}, api.Header{api.Src: 1, api.Port: 9}, api.Header{api.Src: 2, api.Port: 2}, api.Header{api.Src: 2, api.Port: 9}, api.Header{api.Src: 3, api.Port: 1})
	wantRun(t, s, id, api.Header{api.Src: 1, api.Port: 2}, api.Header{api.Src: 1, api.Port: 2}, api.Header{api.Src: 3, api.Port: 1})
	wantRun(t, s, leaf(t, s), api.Header{api.Port: 2})
	wantRun(t, s, leaf(t, s, nil), api.Header{api.Port: 2}, api.Header{api.Port: 2})
	deep := ask(t, s, api.Src, 1, ask(t, s, api.Port, 2, id, leaf(t, s, nil)), ask(t, s, api.Src, 4, leaf(t, s, nil), leaf(t, s)))
	wantRun(t, s, deep, api.Header{api.Src: 1, api.Port: 2}, api.Header{api.Src: 1, api.Port: 2}, api.Header{api.Src: 3, api.Port: 1})
	wantRun(t, s, deep, api.Header{api.Src: 1, api.Port: 3}, api.Header{api.Src: 1, api.Port: 3})
	wantRun(t, s, deep, api.Header{api.Src: 4, api.Port: 2}, api.Header{api.Src: 4, api.Port: 2})
	wantRun(t, s, deep, api.Header{api.Src: 5, api.Port: 2})
}

// Numbers at the ends of their widths, and headers whose numbers fit no field.
func TestWidths(t *testing.T) {
	for field, width := range []int{48, 48, 16, 12, 32, 32, 8, 16, 16, 16, 16} {
		s := nodes.New()
		top := uint64(1)<<width - 1
		up, down := step(t, s, field, 0, top), step(t, s, field, top, 0)
		both := made(t)(Union(s, up, down))
		low, high := api.Header{}, api.Header{}
		high[field] = top
		wantRun(t, s, both, low, high)
		wantRun(t, s, both, high, low)
		wantRun(t, s, made(t)(Star(s, both)), high, low, high)
		wantRun(t, s, made(t)(Then(s, up, both)), low, low)
		not := made(t)(Not(s, is(t, s, field, top)))
		wantRun(t, s, not, high)
		for _, n := range []uint64{top + 1, math.MaxUint64} {
			past := api.Header{}
			past[field] = n
			wantRun(t, s, both, past)
			wantRun(t, s, not, past, past)
			wantRun(t, s, made(t)(Star(s, both)), past, past)
			wantRun(t, s, leaf(t, s, sets(uint64(field), top)), past, high)
		}
	}
}

// What is no store, and what is no node; of several errors the first.
func TestErrors(t *testing.T) {
	refused := func(s *nodes.Store, a, b int, want api.Errno) {
		t.Helper()
		count := s.Len()
		wantError(t, "Union", want)(Union(s, a, b))
		wantError(t, "Then", want)(Then(s, a, b))
		if a == b {
			wantError(t, "Not", want)(Not(s, a))
			wantError(t, "Star", want)(Star(s, a))
			if list, e := Run(s, a, api.Header{}); len(list) != 0 || e != want {
				t.Error("Run", list, e)
			}
		}
		if s.Len() != count {
			t.Error("nodes were left behind")
		}
	}
	s := nodes.New()
	none := []int{-1, -2, math.MinInt, 3, 4, api.MaxNodes, math.MaxInt}
	for _, x := range append(none, 0, 1, 2) {
		refused(nil, x, x, api.ErrNil)
		refused(nil, x, 1, api.ErrNil)
		refused(s, x, x, api.ErrNone)
	}
	step(t, s, api.Port, 1, 2) // node 2, no predicate's
	for _, x := range none {
		refused(s, x, x, api.ErrNone)
		for valid := range 3 {
			refused(s, x, valid, api.ErrNone)
			refused(s, valid, x, api.ErrNone)
		}
	}
	wantError(t, "Not", api.ErrPolicy)(Not(s, 2))
	wantPorts(t, s, 2, 1, 2)
}
