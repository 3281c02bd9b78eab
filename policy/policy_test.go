package policy

import (
	"math/rand"
	"slices"
	"strconv"
	"strings"
	"testing"

	"tollbridge/api"
	"tollbridge/header"
)

func yes() api.Term { return api.Term{Op: api.Yes} }
func no() api.Term  { return api.Term{Op: api.No} }

func is(field int8, n uint64) api.Term  { return api.Term{Op: api.Is, Field: field, N: n} }
func set(field int8, n uint64) api.Term { return api.Term{Op: api.Set, Field: field, N: n} }

func term(op int8, kids ...api.Term) api.Term { return api.Term{Op: op, Kids: kids} }

func filter(pred api.Term) api.Term { return term(api.Filter, pred) }
func not(pred api.Term) api.Term    { return term(api.Not, pred) }
func star(pol api.Term) api.Term    { return term(api.Star, pol) }

func query(name string, pred api.Term) api.Query { return api.Query{Name: name, Pred: pred} }

func policyOf(main api.Term, queries ...api.Query) api.Policy {
	return api.Policy{Main: main, Queries: queries}
}

func sameTerm(a, b api.Term) bool {
	return a.Op == b.Op && a.Field == b.Field && a.N == b.N && slices.EqualFunc(a.Kids, b.Kids, sameTerm)
}

func samePolicy(a, b api.Policy) bool {
	return sameTerm(a.Main, b.Main) && slices.EqualFunc(a.Queries, b.Queries, func(a, b api.Query) bool {
		return a.Name == b.Name && sameTerm(a.Pred, b.Pred)
	})
}

// isPredicate tells a term's side by its Op alone.
func isPredicate(t api.Term) bool { return t.Op <= api.Or }

// wantError asks Check and Plain for the same error, beside which Plain tells
// nothing.
func wantError(t *testing.T, p api.Policy, want api.Errno, what string) {
	t.Helper()
	if e := Check(p); e != want {
		t.Errorf("%s: Check: %v, want %v", what, e, want)
	}
	made, e := Plain(p)
	if e != want {
		t.Errorf("%s: Plain: %v, want %v", what, e, want)
	}
	if e != api.OK && (!sameTerm(made.Main, api.Term{}) || made.Queries != nil) {
		t.Errorf("%s: Plain tells a policy beside %v", what, e)
	}
}

func wantPred(t *testing.T, x api.Term, want api.Errno, what string) {
	t.Helper()
	if e := Pred(x); e != want {
		t.Errorf("%s: Pred: %v, want %v", what, e, want)
	}
}

// polPlaces are policies with a term where a policy must stand, at each place of
// each kind.
func polPlaces(x api.Term) []api.Policy {
	a, q := set(api.Port, 1), query("q", is(api.Port, 1))
	return []api.Policy{
		policyOf(x),
		policyOf(x, q, query("r", yes())),
		policyOf(star(x)),
		policyOf(star(star(x)), q),
		policyOf(term(api.Union, x)),
		policyOf(term(api.Union, x, a)),
		policyOf(term(api.Union, a, x)),
		policyOf(term(api.Union, a, x, a), q),
		policyOf(term(api.Then, x)),
		policyOf(term(api.Then, x, a)),
		policyOf(term(api.Then, a, x)),
		policyOf(term(api.Then, a, a, x, a), q),
		policyOf(star(term(api.Union, a, term(api.Then, a, star(x))))),
	}
}

// overPreds are predicates with a term where a predicate must stand.
func overPreds(x api.Term) []api.Term {
	a := is(api.Port, 1)
	return []api.Term{
		x, not(x), not(not(x)), term(api.And, x), term(api.And, x, a), term(api.And, a, x), term(api.And, a, x, a),
		term(api.Or, x), term(api.Or, x, a), term(api.Or, a, x), term(api.Or, a, x, a), not(term(api.Or, a, term(api.And, a, not(x)))),
	}
}

// predPlaces are policies with a term where a predicate must stand.
func predPlaces(x api.Term) []api.Policy {
	id, q := filter(yes()), query("q", is(api.Port, 1))
	places := []api.Policy{
		policyOf(star(filter(x))),
		policyOf(term(api.Then, id, filter(x))),
		policyOf(term(api.Union, filter(x), id), q),
		policyOf(id, query("p", x), q),
		policyOf(id, q, query("p", yes()), query("r", x)),
	}
	for _, pred := range overPreds(x) {
		places = append(places, policyOf(filter(pred)), policyOf(filter(pred), q), policyOf(id, query("p", pred)), policyOf(id, q, query("p", pred)))
	}
	return places
}

// wantAtPlaces asks for an answer of all policies, and all predicates, with the
// term where its side may stand.
func wantAtPlaces(t *testing.T, x api.Term, want api.Errno, what string) {
	t.Helper()
	if !isPredicate(x) {
		for i, p := range polPlaces(x) {
			wantError(t, p, want, what+" at place "+strconv.Itoa(i))
		}
		return
	}
	for i, p := range predPlaces(x) {
		wantError(t, p, want, what+" at place "+strconv.Itoa(i))
	}
	for i, pred := range overPreds(x) {
		wantPred(t, pred, want, what+" at place "+strconv.Itoa(i))
	}
}

// kinds are a term of each Op, as it must be.
func kinds() []api.Term {
	a := set(api.Port, 1)
	return []api.Term{
		no(), yes(), is(api.Port, 1), not(yes()), term(api.And, yes(), no()), term(api.Or, yes(), no()),
		filter(yes()), a, term(api.Union, a, a), term(api.Then, a, a), star(a),
	}
}

// P18.1, P18.2: the chapter's examples, row by row.
func TestExamples(t *testing.T) {
	id, one := filter(yes()), set(api.Port, 1)
	wantPlain(t, term(api.Then, id, term(api.Then, one, id)), one)
	wantPlain(t, term(api.Union, filter(term(api.And, yes(), not(yes()))), set(api.Port, 2)), set(api.Port, 2))
	wantPlain(t, star(filter(is(api.Port, 1))), id)
	wantPlain(t, star(star(one)), star(one))
	wantError(t, policyOf(set(api.Switch, 1)), api.ErrPolicy, "Set Switch")
	wantError(t, policyOf(filter(is(api.Vlan, 1))), api.ErrPolicy, "Is Vlan")
	wantError(t, policyOf(set(api.Port, 0)), api.ErrPolicy, "Set Port 0")
	wantError(t, policyOf(filter(term(api.And))), api.ErrPolicy, "And without Kids")
	wantError(t, policyOf(id, query("a", yes()), query("a", no())), api.ErrPolicy, "two queries a")
	many := policyOf(id)
	for i := range 33 {
		many.Queries = append(many.Queries, query("q"+strconv.Itoa(i), yes()))
	}
	wantError(t, many, api.ErrTooBig, "33 queries")
}

// P18.1: a predicate stands where one must, and a policy where one must; else
// there is none.
func TestSides(t *testing.T) {
	for op, x := range kinds() {
		if int(x.Op) != op {
			t.Fatalf("%d stands at %d", x.Op, op)
		}
		what := "Op " + strconv.Itoa(op)
		wantAtPlaces(t, x, api.OK, what)
		other := predPlaces(x)
		if isPredicate(x) {
			other = polPlaces(x)
		}
		for i, p := range other {
			wantError(t, p, api.ErrPolicy, what+" on the other side, place "+strconv.Itoa(i))
		}
		if !isPredicate(x) {
			for _, pred := range overPreds(x) {
				wantPred(t, pred, api.ErrPolicy, what+" as a predicate")
			}
		}
	}
}

// P18.1: an Op that is none is refused, wherever it stands.
func TestOps(t *testing.T) {
	one := set(api.Port, 1)
	for n := -128; n < 128; n++ {
		if api.No <= n && n <= api.Star {
			continue
		}
		for _, kids := range [][]api.Term{nil, {yes()}, {one}, {yes(), no()}, {one, one}} {
			x := api.Term{Op: int8(n), Kids: kids}
			for i, p := range append(polPlaces(x), predPlaces(x)...) {
				wantError(t, p, api.ErrPolicy, "Op "+strconv.Itoa(n)+" at place "+strconv.Itoa(i))
			}
			for _, pred := range overPreds(x) {
				wantPred(t, pred, api.ErrPolicy, "Op "+strconv.Itoa(n))
			}
		}
	}
	wantError(t, api.Policy{}, api.ErrPolicy, "the zero policy")
	wantError(t, api.Policy{Queries: []api.Query{query("q", yes())}}, api.ErrPolicy, "no Main")
	wantError(t, policyOf(filter(yes()), api.Query{}), api.ErrPolicy, "the zero query")
	wantPred(t, api.Term{}, api.OK, "the zero term, which is No")
}

// P18.1: each Op has as many Kids as it must have; And, Or, Union and Then may
// have one.
func TestKids(t *testing.T) {
	least := []int{0, 0, 0, 1, 1, 1, 1, 0, 1, 1, 1}
	most := []int{0, 0, 0, 1, 9, 9, 1, 0, 9, 9, 1}
	for op := range least {
		for n := range 10 {
			kid := is(api.Port, 1)
			if op > api.Filter {
				kid = set(api.Port, 1)
			}
			x := kinds()[op]
			x.Kids = repeated(n, kid)
			want := api.OK
			if n < least[op] || n > most[op] {
				want = api.ErrPolicy
			}
			wantAtPlaces(t, x, want, strconv.Itoa(n)+" Kids of Op "+strconv.Itoa(op))
		}
	}
}

func mayAsk(field int) bool {
	return field != api.Vlan
}

func maySet(field int) bool {
	return slices.Contains([]int{api.Src, api.Dst, api.From, api.To, api.SPort, api.DPort, api.Port}, field)
}

func wanted(ok bool) api.Errno {
	if ok {
		return api.OK
	}
	return api.ErrPolicy
}

// P18.1: which fields Is and Set may name, with numbers at the ends of their
// widths and past them.
func TestFieldsAndNumbers(t *testing.T) {
	widths := []int{48, 48, 16, 12, 32, 32, 8, 16, 16, 16, 16}
	for field, width := range widths {
		last := uint64(1)<<width - 1
		for _, n := range []uint64{0, 1, last / 2, last/2 + 1, last - 1, last, last + 1, last + 2, 2*last + 2, 1 << 48, 1 << 63, 1<<64 - 1} {
			what := " of Field " + strconv.Itoa(field) + ", N " + strconv.FormatUint(n, 10)
			wantAtPlaces(t, is(int8(field), n), wanted(mayAsk(field) && n <= last), "Is"+what)
			isPortless := field == api.Port && n == 0
			wantAtPlaces(t, set(int8(field), n), wanted(maySet(field) && n <= last && !isPortless), "Set"+what)
		}
	}
	for n := -128; n < 128; n++ {
		if 0 <= n && n < len(widths) {
			continue
		}
		for _, number := range []uint64{0, 1, 1<<64 - 1} {
			wantAtPlaces(t, set(int8(n), number), api.ErrPolicy, "Set of Field "+strconv.Itoa(n))
			wantAtPlaces(t, is(int8(n), number), api.ErrPolicy, "Is of Field "+strconv.Itoa(n))
		}
	}
}

// P18.1: Field and N are 0 where they do not count.
func TestFieldsThatDoNotCount(t *testing.T) {
	for _, x := range kinds() {
		if x.Op == api.Is || x.Op == api.Set {
			continue
		}
		for _, field := range []int8{-128, -1, 1, api.Port, 10, 11, 127} {
			bad := x
			bad.Field = field
			wantAtPlaces(t, bad, api.ErrPolicy, "Op "+strconv.Itoa(int(x.Op))+" with Field "+strconv.Itoa(int(field)))
		}
		for _, n := range []uint64{1, 65535, 1 << 48, 1<<64 - 1} {
			bad := x
			bad.N = n
			wantAtPlaces(t, bad, api.ErrPolicy, "Op "+strconv.Itoa(int(x.Op))+" with N "+strconv.FormatUint(n, 10))
		}
	}
}

// wantName asks for an answer of a name at each place among others.
func wantName(t *testing.T, name string, want api.Errno) {
	t.Helper()
	a, b, x := query("other_a", yes()), query("other_b", is(api.Port, 1)), query(name, no())
	for _, queries := range [][]api.Query{{x}, {x, a}, {a, x}, {a, b, x}, {a, x, b}} {
		wantError(t, policyOf(filter(yes()), queries...), want, "the name "+strconv.Quote(name))
	}
}

// P18.1: a Name is of 1 to 32 bytes, letters (_ also) and digits, no digit first.
func TestNames(t *testing.T) {
	for _, name := range []string{
		"a", "z", "A", "Z", "_", "__", "_0", "Z9", "a0123456789", "b_1", "web", "deadbeef", "x" + strings.Repeat("9", 31), strings.Repeat("_", 32), strings.Repeat("Q", 31),
		"id", "drop", "filter", "true", "count", "if", "src", "port", // the chapter bars no word
	} {
		wantName(t, name, api.OK)
	}
	for _, name := range []string{
		"", " ", "0", "9a", "0x1", "10.0.0.1", "a:", "a b", " a", "a ", "a\n", "\na", "a\x00", "\x00", "a-b", "a.b", "a#", "=", "*",
		"é", "aé", "ａ", "a\xff", "\xff", "a\u0300", "٣", "a٣", "\u212a", "ſrc",
		strings.Repeat("a", 33), "_" + strings.Repeat("9", 32), strings.Repeat("a", 70000), strings.Repeat("é", 16), strings.Repeat("é", 32),
	} {
		wantName(t, name, api.ErrPolicy)
	}
	const first = "ABCDEFGHIJKLMNOPQRSTUVWXYZ_abcdefghijklmnopqrstuvwxyz"
	for c := range 256 {
		b := string([]byte{byte(c)})
		begins := strings.Contains(first, b)
		goesOn := begins || strings.Contains("0123456789", b)
		wantName(t, b, wanted(begins))
		wantName(t, b+"z", wanted(begins))
		wantName(t, "z"+b, wanted(goesOn))
		wantName(t, "z"+b+"9", wanted(goesOn))
		wantName(t, strings.Repeat("z", 31)+b, wanted(goesOn))
	}
}

// P18.1: no two queries have the same Name, wherever they stand.
func TestNamesAlike(t *testing.T) {
	for first := range api.MaxQueries {
		for second := range first {
			p := policyOf(filter(yes()))
			for i := range api.MaxQueries {
				p.Queries = append(p.Queries, query("q"+strconv.Itoa(i), is(api.Port, uint64(i))))
			}
			wantError(t, p, api.OK, "32 names")
			p.Queries[first].Name = p.Queries[second].Name
			wantError(t, p, api.ErrPolicy, "two names alike")
		}
	}
	for _, pair := range [][2]string{{"a", "A"}, {"a", "a_"}, {"a", "aa"}, {"_a", "a"}, {strings.Repeat("a", 32), strings.Repeat("a", 31)}} {
		wantError(t, policyOf(filter(yes()), query(pair[0], yes()), query(pair[1], yes())), api.OK, "names that are almost alike")
	}
}

// R6: an empty list is none, nil or not.
func TestEmptyLists(t *testing.T) {
	empty := func(op, field int8, n uint64) api.Term {
		return api.Term{Op: op, Field: field, N: n, Kids: []api.Term{}}
	}
	p := api.Policy{Main: term(api.Then, filter(empty(api.Yes, 0, 0)), empty(api.Set, api.Port, 1), filter(empty(api.Is, api.To, 3))), Queries: []api.Query{}}
	wantError(t, p, api.OK, "empty lists")
	for _, op := range []int8{api.Not, api.And, api.Or, api.Filter, api.Union, api.Then, api.Star} {
		wantAtPlaces(t, empty(op, 0, 0), api.ErrPolicy, "no Kids")
	}
}

// isTold tells whether a term is one of a side, by the chapter's table, row by
// row.
func isTold(t api.Term, isPred bool) bool {
	all := func(isPred bool) bool {
		return !slices.ContainsFunc(t.Kids, func(kid api.Term) bool { return !isTold(kid, isPred) })
	}
	fits := t.Field >= 0 && t.Field < api.Fields && t.N < uint64(1)<<header.Width(t.Field)
	isBare, count := t.Field == 0 && t.N == 0, len(t.Kids)
	switch t.Op {
	case api.No, api.Yes:
		return isPred && count == 0 && isBare
	case api.Is:
		return isPred && count == 0 && fits && mayAsk(int(t.Field))
	case api.Not:
		return isPred && count == 1 && isBare && all(true)
	case api.And, api.Or:
		return isPred && count >= 1 && isBare && all(true)
	case api.Filter:
		return !isPred && count == 1 && isBare && all(true)
	case api.Set:
		return !isPred && count == 0 && fits && maySet(int(t.Field)) && !(t.Field == api.Port && t.N == 0)
	case api.Union, api.Then:
		return !isPred && count >= 1 && isBare && all(false)
	case api.Star:
		return !isPred && count == 1 && isBare && all(false)
	}
	return false
}

func isPolicyTold(p api.Policy) bool {
	return isTold(p.Main, false) && !slices.ContainsFunc(p.Queries, func(q api.Query) bool { return !isTold(q.Pred, true) })
}

// P18.1: policies some of whose terms were changed at random are taken just if
// they are still some.
func TestChangedAtRandom(t *testing.T) {
	m := maker{rand.New(rand.NewSource(18))}
	taken, refused := 0, 0
	for range 60000 {
		p := m.policy(m.Intn(4))
		for range 1 + m.Intn(2) {
			list := spots(&p)
			m.change(list[m.Intn(len(list))])
		}
		want := wanted(isPolicyTold(p))
		wantError(t, p, want, "a changed policy")
		for _, q := range p.Queries {
			wantPred(t, q.Pred, wanted(isTold(q.Pred, true)), "a changed predicate")
		}
		wantPred(t, p.Main, wanted(isTold(p.Main, true)), "a changed Main")
		if want == api.OK {
			taken++
		} else {
			refused++
		}
	}
	if taken < 10000 || refused < 10000 {
		t.Errorf("%d policies taken, %d refused: too few to tell", taken, refused)
	}
}

// P18.4: what is taken is taken with any of its terms replaced by Yes, or by
// Filter of Yes.
func TestReplaced(t *testing.T) {
	m := maker{rand.New(rand.NewSource(184))}
	for range 2000 {
		p := m.policy(m.Intn(5))
		for _, x := range spots(&p) {
			kept := *x
			*x = filter(yes())
			if isPredicate(kept) {
				*x = yes()
			}
			if e := Check(p); e != api.OK {
				t.Errorf("Op %d replaced: %v", kept.Op, e)
			}
			*x = kept
		}
	}
	full := policyOf(term(api.Union, repeated(4095, set(api.Port, 1))...))
	wantError(t, full, api.OK, "4096 terms")
	full.Main.Kids[7] = filter(yes())
	wantError(t, full, api.ErrTooBig, "4097 terms, one being replaced by two")
}
