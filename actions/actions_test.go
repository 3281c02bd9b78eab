package actions

import (
	"math"
	"slices"
	"testing"

	"tollbridge/api"
	"tollbridge/match"
)

// bits of the fields, written out once more so as not to lean on what is tested.
var widths = [api.Fields]int{48, 48, 16, 12, 32, 32, 8, 16, 16, 16, 16}

// settable is which fields a Set may name.
var settable = map[int]bool{api.Src: true, api.Dst: true, api.Vlan: true, api.From: true, api.To: true, api.SPort: true, api.DPort: true}

var numbers = []uint64{0, 1, 2, 1<<12 - 1, 1 << 12, 1<<16 - 1, 1 << 16, 1<<16 + 1, 1<<32 - 1, 1 << 32, 1<<48 - 1, 1 << 48, 1 << 63, math.MaxUint64}

func set(field int8, n uint64) api.Action {
	return api.Action{Do: api.ActSet, Field: field, N: n}
}

func out(n uint64) api.Action {
	return api.Action{Do: api.ActOut, N: n}
}

func punt() api.Action {
	return api.Action{Do: api.ActPunt}
}

func copies(lists ...[]api.Action) [][]api.Action {
	return lists
}

func one(list ...api.Action) []api.Action {
	return list
}

// with is h with that field set.
func with(h api.Header, field int, n uint64) api.Header {
	h[field] = n
	return h
}

// example is the header of the chapter's table.
var example = api.Header{api.Kind: 0x800, api.Port: 3, api.To: 9}

func checks(t *testing.T, r api.Rule, want api.Errno) {
	t.Helper()
	if got := Check(r); got != want {
		t.Errorf("Check(%v) = %v, want %v", r, got, want)
	}
}

// checksAction holds the verdict wherever the action stands.
func checksAction(t *testing.T, a api.Action, want api.Errno) {
	t.Helper()
	good := one(set(api.To, 5), out(2), punt())
	for _, c := range [][][]api.Action{
		copies(one(a)),
		copies(one(a, out(1))),
		copies(one(out(1), a)),
		copies(one(out(1), a, punt())),
		copies(nil, good, one(set(api.Vlan, 0), a)),
		copies(one(a), good, nil),
	} {
		checks(t, api.Rule{Copies: c}, want)
	}
}

func goesOut(t *testing.T, h api.Header, c [][]api.Action, ports []uint16, wantPunt bool, want ...api.Header) {
	t.Helper()
	if got, punt := Run(h, c, ports); punt != wantPunt || !slices.Equal(got, want) {
		t.Errorf("Run(%v, %v, %v) = %v, %t, want %v, %t", h, c, ports, got, punt, want, wantPunt)
	}
}

// The chapter's examples.
func TestExamples(t *testing.T) {
	h := example
	goesOut(t, h, copies(one(set(api.To, 5), out(1)), one(out(0))), []uint16{1, 2, 3}, false,
		with(with(h, api.To, 5), api.Port, 1), h)
	goesOut(t, h, copies(one(out(1), set(api.To, 5), out(2))), []uint16{1, 2}, false,
		with(h, api.Port, 1), with(with(h, api.To, 5), api.Port, 2))
	goesOut(t, h, copies(one(out(7))), []uint16{1, 2, 3}, false)
	goesOut(t, h, copies(one(punt()), nil), []uint16{1, 2, 3}, true)
	goesOut(t, h, copies(one(punt()), nil), nil, true)

	checks(t, api.Rule{Copies: copies(one(set(api.Port, 1)))}, api.ErrArg)
	checks(t, api.Rule{Copies: make([][]api.Action, 65)}, api.ErrArg)
	checks(t, api.Rule{Copies: copies(one(out(65536)))}, api.ErrArg)
}

// P12.1: a rule without copies is one, whatever its Rank and its Cookie are.
func TestCheckPlain(t *testing.T) {
	for _, rank := range []int{math.MinInt, -1, 0, 1, math.MaxInt} {
		for _, cookie := range []uint64{0, 1, 1 << 32, math.MaxUint64} {
			for _, c := range [][][]api.Action{nil, {}, {nil}, {{}}, {{}, nil, {}}} {
				checks(t, api.Rule{Rank: rank, Cookie: cookie, Copies: c}, api.OK)
			}
		}
	}
}

// P12.1: a match that is one, up to the end of each width, and what is none,
// which goes ahead of everything that is wrong with the copies.
func TestCheckMatch(t *testing.T) {
	wrong := [][][]api.Action{make([][]api.Action, 65), {make([]api.Action, 17)}, {{{Do: 3}}}, {{set(api.Kind, 1)}}, {{out(65536)}}}
	for field, width := range widths {
		end := uint64(1)<<width - 1
		for _, m := range []api.Match{
			{},
			{Mask: with(api.Header{}, field, end)},
			{Mask: with(api.Header{}, field, end), Value: with(api.Header{}, field, end)},
			{Mask: with(api.Header{}, field, 1<<(width-1)), Value: with(api.Header{}, field, 1<<(width-1))},
		} {
			checks(t, api.Rule{Match: m}, api.OK)
			checks(t, api.Rule{Match: m, Copies: copies(one(set(api.To, 5), out(1)))}, api.OK)
			for _, c := range wrong {
				checks(t, api.Rule{Match: m, Copies: c}, api.ErrArg)
			}
		}
		for _, m := range []api.Match{
			{Mask: with(api.Header{}, field, end+1)},
			{Mask: with(api.Header{}, field, math.MaxUint64), Value: with(api.Header{}, field, math.MaxUint64)},
			{Value: with(api.Header{}, field, 1)},
			{Mask: with(api.Header{}, field, 2), Value: with(api.Header{}, field, 1)},
			{Mask: with(api.Header{}, field, end), Value: with(api.Header{}, field, end+1)},
		} {
			if match.Check(m) != api.ErrMatch {
				t.Fatal("the test's match is one", m)
			}
			checks(t, api.Rule{Match: m}, api.ErrMatch)
			checks(t, api.Rule{Match: m, Copies: copies(one(set(api.To, 5), out(1)))}, api.ErrMatch)
			for _, c := range wrong {
				checks(t, api.Rule{Match: m, Copies: c}, api.ErrMatch)
			}
		}
	}
}

// filled is copies of so many actions each, all of them good.
func filled(sizes ...int) [][]api.Action {
	var c [][]api.Action
	for _, n := range sizes {
		c = append(c, slices.Repeat(one(out(1)), n))
	}
	return c
}

// P12.1: 64 copies, and one more.
func TestCheckCopies(t *testing.T) {
	for n := range 64 + 1 {
		checks(t, api.Rule{Copies: make([][]api.Action, n)}, api.OK)
		checks(t, api.Rule{Copies: filled(slices.Repeat([]int{1}, n)...)}, api.OK)
		checks(t, api.Rule{Copies: filled(slices.Repeat([]int{10}, n)...)}, api.OK)
	}
	for _, n := range []int{65, 66, 128, 1 << 16, 1 << 20} {
		checks(t, api.Rule{Copies: make([][]api.Action, n)}, api.ErrArg)
		checks(t, api.Rule{Copies: filled(slices.Repeat([]int{1}, n)...)}, api.ErrArg)
	}
}

// P12.1: 16 actions of a copy, and one more, whichever copy it is.
func TestCheckActions(t *testing.T) {
	for _, place := range []int{0, 1, 31, 62, 63} {
		sizes := make([]int, 64)
		for n := range 16 + 1 {
			sizes[place] = n
			checks(t, api.Rule{Copies: filled(sizes...)}, api.OK)
		}
		for _, n := range []int{17, 18, 640, 641, 1 << 16} {
			sizes[place] = n
			checks(t, api.Rule{Copies: filled(sizes...)}, api.ErrArg)
			checks(t, api.Rule{Copies: filled(n)}, api.ErrArg)
		}
	}
}

// P12.1: 640 actions of all copies together, and one more, however they lie.
func TestCheckAll(t *testing.T) {
	for _, base := range [][]int{
		slices.Repeat([]int{16}, 40),
		append(slices.Repeat([]int{16}, 40), make([]int, 23)...),
		slices.Repeat([]int{10}, 64),
		append(make([]int, 23), slices.Repeat([]int{16}, 40)...),
		append(slices.Repeat([]int{15}, 42), 10),
	} {
		checks(t, api.Rule{Copies: filled(base...)}, api.OK)
		if len(base) < 64 {
			checks(t, api.Rule{Copies: filled(append(slices.Clone(base), 1)...)}, api.ErrArg)
			checks(t, api.Rule{Copies: filled(append([]int{1}, base...)...)}, api.ErrArg)
			checks(t, api.Rule{Copies: filled(append(slices.Clone(base), 0)...)}, api.OK)
		}
		for place, n := range base {
			if n < 16 {
				more := slices.Clone(base)
				more[place]++
				checks(t, api.Rule{Copies: filled(more...)}, api.ErrArg)
			}
		}
	}
	checks(t, api.Rule{Copies: filled(slices.Repeat([]int{16}, 64)...)}, api.ErrArg)
}

// P12.1: within the bounds every action is looked at, the last one too.
func TestCheckEveryPlace(t *testing.T) {
	for copyAt := range 64 {
		for at := range 10 {
			c := filled(slices.Repeat([]int{10}, 64)...)
			c[copyAt][at] = api.Action{Do: 3}
			checks(t, api.Rule{Copies: c}, api.ErrArg)
		}
	}
}

// P12.1: every Do and every Field that there is, with numbers at the ends of
// the widths.
func TestCheckEveryAction(t *testing.T) {
	for do := math.MinInt8; do <= math.MaxInt8; do++ {
		for field := math.MinInt8; field <= math.MaxInt8; field++ {
			for _, n := range numbers {
				a := api.Action{Do: int8(do), Field: int8(field), N: n}
				want := api.ErrArg
				switch {
				case do == 0 && settable[field] && n < 1<<widths[field],
					do == 1 && field == 0 && n <= 65535,
					do == 2 && field == 0 && n == 0:
					want = api.OK
				}
				if got := Check(api.Rule{Copies: copies(one(a))}); got != want {
					t.Errorf("Check of %v = %v, want %v", a, got, want)
				}
			}
		}
	}
}

// P12.1: of a Set each field to the end of its width and each bit past it; Port,
// Switch, Kind and Proto never, and what is no field neither.
func TestCheckSet(t *testing.T) {
	for field, width := range widths {
		taken := api.ErrArg
		if settable[field] {
			taken = api.OK
		}
		for _, n := range []uint64{0, 1, 1 << (width - 1), 1<<width - 1} {
			checksAction(t, set(int8(field), n), taken)
		}
		for bit := width; bit < 64; bit++ {
			checksAction(t, set(int8(field), 1<<bit), api.ErrArg)
			checksAction(t, set(int8(field), 1<<bit|1), api.ErrArg)
		}
		checksAction(t, set(int8(field), math.MaxUint64), api.ErrArg)
	}
	for _, field := range []int8{-128, -1, api.Fields, 12, 64, 127} {
		checksAction(t, set(field, 0), api.ErrArg)
		checksAction(t, set(field, 1), api.ErrArg)
	}
}

// P12.1: an Out has a number of 16 bits and no Field, a Punt has neither.
func TestCheckOutAndPunt(t *testing.T) {
	for n := range uint64(1<<17 + 2) {
		want := api.OK
		if n > 65535 {
			want = api.ErrArg
		}
		if got := Check(api.Rule{Copies: copies(one(out(n)))}); got != want {
			t.Fatalf("Check of an Out of %d = %v, want %v", n, got, want)
		}
	}
	checksAction(t, out(0), api.OK)
	checksAction(t, out(65535), api.OK)
	checksAction(t, punt(), api.OK)
	for _, n := range []uint64{65536, 65537, 1 << 32, 1<<32 + 1, 1 << 63, math.MaxUint64} {
		checksAction(t, out(n), api.ErrArg)
	}
	for _, field := range []int8{-128, -1, 1, api.Port, api.Fields, 127} {
		checksAction(t, api.Action{Do: api.ActOut, Field: field, N: 1}, api.ErrArg)
		checksAction(t, api.Action{Do: api.ActPunt, Field: field}, api.ErrArg)
	}
	for _, n := range []uint64{1, 65535, 1 << 63, math.MaxUint64} {
		checksAction(t, api.Action{Do: api.ActPunt, N: n}, api.ErrArg)
	}
	for _, do := range []int8{-128, -1, 3, 4, 127} {
		checksAction(t, api.Action{Do: do}, api.ErrArg)
	}
}

// P12.3: as they are, in order, action by action; empty lists are alike.
func TestSame(t *testing.T) {
	a, b := one(set(api.To, 5), out(1)), one(out(2))
	alike := [][2][][]api.Action{
		{nil, nil},
		{nil, {}},
		{{nil}, {{}}},
		{{a, b}, {a, b}},
		{{a, nil}, {a, {}}},
		{{a}, {slices.Clone(a)}},
		{{{{Do: -1, Field: -1, N: math.MaxUint64}}}, {{{Do: -1, Field: -1, N: math.MaxUint64}}}},
		{make([][]api.Action, 5000), slices.Repeat([][]api.Action{{}}, 5000)},
	}
	for _, k := range alike {
		if !Same(k[0], k[1]) || !Same(k[1], k[0]) {
			t.Errorf("%v and %v are not the same", k[0], k[1])
		}
	}
	unlike := [][2][][]api.Action{
		{nil, {nil}},
		{{nil}, {nil, nil}},
		{{a}, nil},
		{{a}, {b}},
		{{a, b}, {b, a}},
		{{a, b}, {a}},
		{{a, b}, {b}},
		{{a}, {a, nil}},
		{{a}, {nil, a}},
		{{a}, {a[:1]}},
		{{a}, {a[1:]}},
		{{a}, {a[:1], a[1:]}},
		{{one(a[0], a[1])}, {one(a[1], a[0])}},
		{{one(out(1))}, {one(out(1), out(1))}},
		{{one(set(0, 1))}, {one(out(1))}},
		{{one(set(0, 1))}, {one(set(1, 1))}},
		{{one(set(0, 1))}, {one(set(0, 2))}},
		{{one(out(0))}, {one(out(1 << 63))}},
		{{one(api.Action{Do: 3})}, {one(api.Action{Do: 4})}},
		{{one(api.Action{Do: api.ActPunt})}, {one(api.Action{Do: api.ActPunt, N: 1})}},
		{{one(api.Action{Do: api.ActPunt})}, {one(api.Action{Do: api.ActPunt, Field: 1})}},
	}
	for _, k := range unlike {
		if Same(k[0], k[1]) || Same(k[1], k[0]) {
			t.Errorf("%v and %v are the same", k[0], k[1])
		}
	}
}

// P12.3: one thing changed anywhere tells two lists apart.
func TestSameEveryPlace(t *testing.T) {
	base := filled(3, 0, 2, 16, 1)
	for copyAt := range base {
		for at := range base[copyAt] {
			for _, change := range []func(a *api.Action){
				func(a *api.Action) { a.Do = 2 },
				func(a *api.Action) { a.Field = 1 },
				func(a *api.Action) { a.N = 1<<32 + 1 },
			} {
				other := filled(3, 0, 2, 16, 1)
				if !Same(base, other) {
					t.Fatal("not the same")
				}
				change(&other[copyAt][at])
				if Same(base, other) || Same(other, base) {
					t.Errorf("the same, changed at %d, %d", copyAt, at)
				}
			}
		}
	}
}
