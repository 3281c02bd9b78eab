package meaning

import (
	"strconv"
	"testing"

	"tollbridge/api"
)

// wantCount asks how many headers there are, or that they are too many.
func wantCount(t *testing.T, pol api.Term, h api.Header, want int, what string) {
	t.Helper()
	if want > api.MaxParts {
		wantError(t, pol, h, api.ErrTooBig, what)
		return
	}
	if list, e := Of(pol, h); e != api.OK || len(list) != want {
		t.Errorf("%s: %d headers, %v, want %d", what, len(list), e, want)
	}
}

// ifFits is a count for wantCount, or one past the bound.
func ifFits(fits bool, count int) int {
	if fits {
		return count
	}
	return api.MaxParts + 1
}

// P19.2: a Union's set, of kids that make one header each or many, alike or not.
func TestBigUnion(t *testing.T) {
	h, id := example(), filter(yes())
	for count := 60; count <= 70; count++ {
		what := strconv.Itoa(count)
		all, rest := ways(api.Dst, count), union(ways(api.Dst, count).Kids[40:]...)
		wantCount(t, all, h, count, "Sets, "+what)
		wantCount(t, union(all), h, count, "a Union of one, "+what)
		wantCount(t, union(all, all), h, count, "the same twice, "+what)
		wantCount(t, union(id, all), h, count+1, "id and Sets, "+what)
		wantCount(t, union(all, filter(no())), h, count, "Sets and drop, "+what)
		wantCount(t, union(ways(api.Dst, 40), rest), h, count, "two Unions, "+what)
		wantCount(t, union(ways(api.Dst, 50), rest), h, count, "two that overlap, "+what)
		wantCount(t, union(rest, ways(api.Dst, 40)), h, count, "two, turned about, "+what)
		wantCount(t, union(ways(api.Dst, 1), then(ways(api.To, 5), ways(api.Dst, 11)), ways(api.Dst, count-55)), h, count, "Sets and a Then, "+what)
		wantCount(t, union(star(ways(api.Port, 30)), ways(api.Dst, count-30)), h, count, "a Star and Sets, "+what)
	}
}

// P19.2: Then's set behind each kid, also if a later kid makes it small again.
func TestBigThen(t *testing.T) {
	h := example()
	one, drop := set(api.Port, 9), filter(no())
	fold := []api.Term{set(api.Dst, 1), set(api.To, 1), set(api.Src, 1), set(api.Port, 1)}
	for count := 60; count <= 70; count++ {
		what, fits := strconv.Itoa(count), count <= api.MaxParts
		all, small, none := ways(api.Dst, count), ifFits(fits, 1), ifFits(fits, 0)
		wantCount(t, then(all), h, count, "one kid, "+what)
		wantCount(t, then(one, all), h, count, "the last kid, "+what)
		wantCount(t, then(all, one), h, count, "the first kid, "+what)
		wantCount(t, then(one, all, one), h, count, "a kid between, "+what)
		wantCount(t, then(append([]api.Term{all}, fold...)...), h, small, "first many, then one, "+what)
		wantCount(t, then(append([]api.Term{one, then(all)}, fold...)...), h, small, "a Then's own, "+what)
		wantCount(t, then(all, filter(is(api.Dst, 1))), h, small, "many, of which one is left, "+what)
		wantCount(t, then(all, drop), h, none, "many, of which none is left, "+what)
		wantCount(t, then(all, drop, one), h, none, "none left for a last kid, "+what)
		wantCount(t, then(drop, all), h, 0, "what is never asked, "+what)
		wantCount(t, then(one, drop, all, one), h, 0, "what is never asked, between, "+what)
	}
	for _, x := range [][2]int{{8, 8}, {8, 9}, {64, 1}, {1, 64}, {1, 65}, {32, 2}, {33, 2}, {2, 32}, {2, 33}, {13, 5}, {5, 13}, {64, 64}, {9, 7}, {60, 60}} {
		first, second := ways(api.Dst, x[0]), ways(api.To, x[1])
		what := strconv.Itoa(x[0]) + " times " + strconv.Itoa(x[1])
		wantCount(t, then(first, second), h, x[0]*x[1], what)
		wantCount(t, then(append([]api.Term{first, second}, fold...)...), h, ifFits(x[0]*x[1] <= api.MaxParts, 1), what+", then one")
		wantCount(t, then(set(api.Dst, 1), set(api.To, 1), first, set(api.Dst, 1), second), h, x[1], what+", one after the other")
	}
}

// P19.2: a Union's set within a Then, and a Star's in each of them.
func TestBigWithin(t *testing.T) {
	h := example()
	big, drop := ways(api.Dst, 65), filter(no())
	for what, pol := range map[string]api.Term{
		"a Union in a Then":           then(big, set(api.Dst, 1)),
		"a Union in a Union in Then":  then(union(set(api.Dst, 1), union(drop, big)), set(api.Dst, 1)),
		"a Union of halves":           then(union(ways(api.Dst, 33), ways(api.To, 32)), drop),
		"a Star in a Then":            then(star(ways(api.Dst, 64)), set(api.Dst, 1)),
		"a Star in a Then's end":      then(set(api.Port, 2), star(ways(api.Dst, 64))),
		"a Union in a Star in a Then": then(star(then(big, drop)), drop),
		"two Stars":                   star(then(star(ways(api.Dst, 64)), drop)),
		"kids of both":                then(union(filter(yes()), set(api.Port, 2)), ways(api.Dst, 33), drop),
	} {
		wantError(t, pol, h, api.ErrTooBig, what)
	}
	wantCount(t, then(union(ways(api.Dst, 32), ways(api.To, 32)), drop), h, 0, "a Union of halves")
	wantCount(t, then(union(filter(yes()), set(api.Port, 2)), ways(api.Dst, 32), drop), h, 0, "kids of both")
	wantCount(t, star(then(star(ways(api.Dst, 63)), drop)), h, 1, "two Stars")
}

// P19.2: a Star's set, whether it grows at once or by one a round.
func TestBigStar(t *testing.T) {
	h := example()
	for count := 58; count <= 70; count++ {
		what := strconv.Itoa(count)
		wantCount(t, star(chain(count-1)), h, count, "one a round, "+what)
		wantCount(t, star(chain(count-1)), with(h, api.Port, 3), count-2, "from the third on, "+what)
		wantCount(t, star(ways(api.Dst, count-1)), h, count, "at once, "+what)
		wantCount(t, star(ways(api.Port, count)), h, count, "at once, h among them, "+what)
		wantCount(t, star(union(chain(count-11), ways(api.Port, 10))), h, max(count-10, 10), "both, "+what)
		wantCount(t, union(set(api.Port, 1), then(star(chain(count-1)), chain(count-1))), h, count, "a Star and a step, "+what)
	}
	for _, x := range [][2]int{{7, 7}, {7, 8}, {8, 7}, {63, 0}, {31, 1}, {1, 31}, {32, 1}} {
		kids := append(ways(api.Dst, x[0]).Kids, ways(api.To, x[1]).Kids...)
		wantCount(t, star(union(kids...)), h, (1+x[0])*(1+x[1]), strconv.Itoa(x[0])+" and "+strconv.Itoa(x[1]))
	}
}

// P19.2: rounds, the last of which adds nothing: MaxRounds of them fit, and one
// more would add too many headers as well.
func TestManyRounds(t *testing.T) {
	wantCount(t, star(chain(63)), example(), 64, "64 rounds")
	wantError(t, star(chain(64)), example(), api.ErrTooBig, "65 rounds")
	wantError(t, then(star(chain(64)), set(api.Port, 1)), example(), api.ErrTooBig, "65 rounds, then one header")
	backward := union()
	for i := range uint64(64) {
		backward.Kids = append(backward.Kids, then(filter(is(api.Port, 66-i)), set(api.Port, 65-i)))
	}
	wantCount(t, star(backward), with(example(), api.Port, 65), 64, "64 rounds, backward")
	wantError(t, star(backward), with(example(), api.Port, 66), api.ErrTooBig, "65 rounds, backward")
}

// repeated is a list of the same term.
func repeated(n int, t api.Term) []api.Term {
	kids := make([]api.Term, n)
	for i := range kids {
		kids[i] = t
	}
	return kids
}

// counting is a Filter of so many terms, from 4 on, that lets nothing by.
func counting(work int) api.Term {
	return filter(and(repeated(work-2, no())...))
}

// padding is a policy that makes nothing, by so much work (from 1000 on).
func padding(work int) api.Term {
	each := work/32 - 4
	return union(then(ways(api.Dst, 32), counting(each)), counting(work-32-32*each))
}

// wantWork asks how much work a policy is: with so much beside it that MaxWork is
// done it is told as without, and with 1 more it is not.
func wantWork(t *testing.T, pol api.Term, h api.Header, work int, what string) {
	t.Helper()
	want, e := Of(pol, h)
	if e != api.OK {
		t.Errorf("%s: %v", what, e)
		return
	}
	left := api.MaxWork - work
	for i, full := range []api.Term{union(pol, padding(left)), union(padding(left), pol)} {
		if list, e := Of(full, h); e != api.OK || len(list) != len(want) {
			t.Errorf("%s, %d: more work than %d: %v", what, i, work, e)
		}
	}
	for _, over := range []api.Term{union(pol, padding(left+1)), union(padding(left+1), pol), union(padding(left+100), pol)} {
		if _, e := Of(over, h); e != api.ErrTooBig {
			t.Errorf("%s: less work than %d: %v", what, work, e)
		}
	}
}

// P19.2: the padding is as much work as it says.
func TestPadding(t *testing.T) {
	for _, work := range []int{1000, 1001, 1031, 1032, 40000, 60000, api.MaxWork - 1, api.MaxWork} {
		wantCount(t, padding(work), example(), 0, strconv.Itoa(work))
		wantCount(t, union(padding(work), filter(yes())), example(), ifFits(work+2 <= api.MaxWork, 1), strconv.Itoa(work)+" and 2")
		wantCount(t, union(set(api.Port, 2), padding(work)), example(), ifFits(work+1 <= api.MaxWork, 1), "1 and "+strconv.Itoa(work))
	}
	wantError(t, padding(api.MaxWork+1), example(), api.ErrTooBig, "MaxWork and 1")
	wantError(t, then(padding(api.MaxWork+1), filter(yes())), example(), api.ErrTooBig, "MaxWork and 1, and what is not asked")
	wantCount(t, then(padding(api.MaxWork), filter(yes())), example(), 0, "MaxWork, and what is not asked")
}

// P19.2: the work of each kind of term.
func TestWork(t *testing.T) {
	h := example()
	a, id, drop := set(api.Port, 2), filter(yes()), filter(no())
	long := filter(and(no(), is(api.Port, 1), or(yes(), not(no()))))
	for what, x := range map[string]struct {
		pol  api.Term
		work int
	}{
		"a Set":                            {a, 1},
		"a Set that changes nothing":       {set(api.Port, 1), 1},
		"id":                               {id, 2},
		"drop":                             {drop, 2},
		"a Filter's terms, all":            {long, 8},
		"an Or's, behind one that holds":   {filter(or(yes(), not(not(yes())))), 6},
		"a Union of one":                   {union(a), 1},
		"a Union":                          {union(a, a, id, long, set(api.Port, 1)), 13},
		"a Then of one":                    {then(a), 1},
		"a Then":                           {then(a, id, a), 4},
		"a Then that drops":                {then(a, drop, long, a), 3},
		"a Then of many":                   {then(ways(api.Dst, 10), id, a), 40},
		"a Then of fewer":                  {then(ways(api.Dst, 10), set(api.Dst, 3), long, id), 28},
		"a Then of what two ways make":     {then(union(a, a, then(id, a)), a), 6},
		"a Then of Unions":                 {then(ways(api.Dst, 7), ways(api.To, 6), ways(api.Dst, 5), id), 7 + 42 + 42*5 + 30*2},
		"a Star of a Filter":               {star(id), 2},
		"a Star of drop":                   {star(drop), 2},
		"a Star of a Set":                  {star(a), 2},
		"a Star of a Set, from there":      {then(a, star(a)), 2},
		"a Star of a Star":                 {star(star(a)), 3},
		"a Star of a Star of a Star":       {star(star(star(a))), 4},
		"a Star of Sets":                   {star(ways(api.Dst, 10)), 110},
		"a Star of many ways":              {star(union(ways(api.Dst, 10), ways(api.Dst, 10))), 220},
		"a Star of a chain":                {star(chain(9)), 10*9*2 + 9},
		"a Star within a Star":             {star(union(star(chain(2)), drop)), (3*4 + 2) + 2 + (2*4 + 1) + 2 + 4 + 2},
		"a Star asked of each of many":     {then(union(id, a), star(a)), 3 + 2 + 1},
		"a Star asked of what it made":     {then(star(a), star(a)), 2 + 2 + 1},
		"Stars side by side":               {union(star(a), star(a)), 4},
		"the fullest Then":                 {then(ways(api.Dst, 64), ways(api.Dst, 64), id), 64 + 64*64 + 128},
		"the fullest Star":                 {star(ways(api.Port, 64)), 64 * 64},
		"the fullest Star of a Star":       {then(star(chain(63)), id), 64*63*2 + 63 + 128},
		"a Union behind what drops":        {union(then(drop, union(a, a, long)), a), 3},
		"a Filter asked of each of a Star": {then(star(chain(3)), long), 4*3*2 + 3 + 32},
	} {
		wantWork(t, x.pol, h, x.work, what)
	}
}
