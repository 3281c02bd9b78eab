package show

import (
	"strconv"
	"strings"
	"testing"

	"tollbridge/api"
	"tollbridge/parse"
)

// isPredicate tells a term's side by its Op alone.
func isPredicate(t api.Term) bool { return t.Op <= api.Or }

// wantNone asks for ErrPolicy of all policies with the term at some place where
// its side has one.
func wantNone(t *testing.T, bad api.Term, what string) {
	t.Helper()
	places := polPlaces(bad)
	if isPredicate(bad) {
		places = predPlaces(bad)
	}
	for i, p := range places {
		wantError(t, p, api.ErrPolicy, what+" at place "+strconv.Itoa(i))
	}
}

// polPlaces are policies with a term where a policy must stand, at each place of
// each kind.
func polPlaces(x api.Term) []api.Policy {
	a := set(api.Port, 1)
	q := query("q", is(api.Port, 1))
	return []api.Policy{
		policyOf(x),
		policyOf(x, q, q),
		policyOf(star(x)),
		policyOf(star(star(x)), q),
		policyOf(term(api.Union, x, a)),
		policyOf(term(api.Union, a, x)),
		policyOf(term(api.Union, a, x, a), q),
		policyOf(term(api.Then, x, a)),
		policyOf(term(api.Then, a, x)),
		policyOf(term(api.Then, a, a, x, a), q),
		policyOf(star(term(api.Union, a, term(api.Then, a, star(x))))),
	}
}

// predPlaces are policies with a term where a predicate must stand.
func predPlaces(x api.Term) []api.Policy {
	a, id := is(api.Port, 1), filter(yes())
	q := query("q", a)
	return []api.Policy{
		policyOf(filter(x)),
		policyOf(filter(x), q),
		policyOf(star(filter(x))),
		policyOf(term(api.Then, id, filter(x))),
		policyOf(term(api.Union, filter(x), id)),
		policyOf(filter(not(x))),
		policyOf(filter(not(not(x)))),
		policyOf(filter(term(api.And, x, a))),
		policyOf(filter(term(api.And, a, x))),
		policyOf(filter(term(api.And, a, x, a))),
		policyOf(filter(term(api.Or, x, a))),
		policyOf(filter(term(api.Or, a, x))),
		policyOf(filter(term(api.Or, a, x, a))),
		policyOf(filter(not(term(api.Or, a, term(api.And, a, not(x)))))),
		policyOf(id, query("q", x)),
		policyOf(id, query("q", x), q),
		policyOf(id, q, q, query("r", x)),
		policyOf(id, q, query("r", not(term(api.Or, a, x)))),
	}
}

// kinds are a term of each Op, as it must be.
func kinds() []api.Term {
	return []api.Term{
		no(), yes(), is(api.Port, 1), not(yes()), term(api.And, yes(), no()), term(api.Or, yes(), no()),
		filter(yes()), set(api.Port, 1), term(api.Union, set(0, 0), set(0, 0)), term(api.Then, set(0, 0), set(0, 0)), star(set(0, 0)),
	}
}

// P17.1: a predicate stands where one must, and a policy where one must; else
// there is none.
func TestSides(t *testing.T) {
	for op, x := range kinds() {
		if int(x.Op) != op {
			t.Fatalf("%d stands at %d", x.Op, op)
		}
		wanted, other := polPlaces(x), predPlaces(x)
		if isPredicate(x) {
			wanted, other = other, wanted
		}
		for i, p := range wanted {
			text, e := Text(p)
			if e != api.OK {
				t.Errorf("Op %d at place %d: %v", op, i, e)
				continue
			}
			wantBack(t, p, text)
		}
		for i, p := range other {
			wantError(t, p, api.ErrPolicy, "Op "+strconv.Itoa(op)+" on the other side, place "+strconv.Itoa(i))
		}
	}
}

// P17.1: an Op that is none is refused, wherever it stands.
func TestOps(t *testing.T) {
	for n := -128; n < 128; n++ {
		if api.No <= n && n <= api.Star {
			continue
		}
		for _, kids := range [][]api.Term{nil, {yes()}, {set(0, 0)}, {yes(), no()}, {set(0, 0), set(0, 0)}} {
			x := api.Term{Op: int8(n), Kids: kids}
			for i, p := range append(polPlaces(x), predPlaces(x)...) {
				wantError(t, p, api.ErrPolicy, "Op "+strconv.Itoa(n)+" at place "+strconv.Itoa(i))
			}
		}
	}
	wantError(t, api.Policy{}, api.ErrPolicy, "the zero policy")
	wantError(t, api.Policy{Queries: []api.Query{query("q", yes())}}, api.ErrPolicy, "no Main")
	wantError(t, policyOf(filter(yes()), api.Query{}), api.ErrPolicy, "the zero query")
}

// P17.1: each Op has as many Kids as it must have.
func TestKids(t *testing.T) {
	least := []int{0, 0, 0, 1, 2, 2, 1, 0, 2, 2, 1}
	most := []int{0, 0, 0, 1, 6, 6, 1, 0, 6, 6, 1}
	for op := range least {
		for n := range 7 {
			kid := is(api.Port, 1)
			if op > api.Filter {
				kid = set(api.Port, 1)
			}
			x := api.Term{Op: int8(op)}
			for range n {
				x.Kids = append(x.Kids, kid)
			}
			if n < least[op] || n > most[op] {
				wantNone(t, x, strconv.Itoa(n)+" Kids of Op "+strconv.Itoa(op))
				continue
			}
			p := policyOf(x)
			if isPredicate(x) {
				p = policyOf(filter(x), query("q", x))
			}
			if text, e := Text(p); e != api.OK {
				t.Errorf("%d Kids of Op %d: %v", n, op, e)
			} else {
				wantBack(t, p, text)
			}
		}
	}
}

// P17.1: a Field that is none is refused in Is and Set.
func TestFields(t *testing.T) {
	for n := -128; n < 128; n++ {
		field := int8(n)
		if 0 <= n && n < api.Fields {
			wantMain(t, set(field, 0), fields()[n]+" := "+number(field, 0))
			wantPred(t, is(field, 0), fields()[n]+" = "+number(field, 0))
			continue
		}
		for _, number := range []uint64{0, 1, 1<<64 - 1} {
			wantNone(t, set(field, number), "Set of Field "+strconv.Itoa(n))
			wantNone(t, is(field, number), "Is of Field "+strconv.Itoa(n))
		}
	}
}

// P17.2: a Field or an N that no text says is refused, because it would be read
// as 0.
func TestFieldsThatDoNotCount(t *testing.T) {
	for _, x := range kinds() {
		if x.Op == api.Is || x.Op == api.Set {
			continue
		}
		for _, field := range []int8{-128, -1, 1, api.Port, 10, 11, 127} {
			bad := x
			bad.Field = field
			wantNone(t, bad, "Op "+strconv.Itoa(int(x.Op))+" with Field "+strconv.Itoa(int(field)))
		}
		for _, n := range []uint64{1, 65535, 1 << 48, 1<<64 - 1} {
			bad := x
			bad.N = n
			wantNone(t, bad, "Op "+strconv.Itoa(int(x.Op))+" with N "+strconv.FormatUint(n, 10))
		}
	}
}

// wantNoName asks for ErrPolicy of a name at each place among others.
func wantNoName(t *testing.T, name string) {
	t.Helper()
	id, a, bad := filter(yes()), query("a", yes()), query(name, yes())
	for _, queries := range [][]api.Query{{bad}, {bad, a}, {a, bad}, {a, a, bad, a}} {
		wantError(t, policyOf(id, queries...), api.ErrPolicy, "the name "+short(name))
	}
}

// P17.1: a Name is a name, and none of the words in quotes.
func TestNames(t *testing.T) {
	for _, name := range append(fields(), "id", "drop", "filter", "true", "false", "count", "if", "then", "else") {
		wantNoName(t, name)
		wantNoName(t, name+" ")
		for _, near := range []string{name + "_", name + "0", "_" + name, strings.ToUpper(name), strings.ToUpper(name[:1]) + name[1:]} {
			wantText(t, policyOf(filter(yes()), query(near, yes())), "id\ncount "+near+" = true\n")
		}
	}
	for _, name := range []string{
		"", " ", "0", "9a", "0x1", "10.0.0.1", "00:00:00:00:00:0a", "a:", "a b", " a", "a ", "a\n", "\na", "a\x00", "a-b", "a.b", "a#", "#", "a=",
		"é", "aé", "ａ", "a\xff", "\xff", "=", "(", "*", "\u0130d", "ſrc",
		strings.Repeat("a", 33), "_" + strings.Repeat("9", 32), strings.Repeat("a", 70000), strings.Repeat("é", 16),
	} {
		wantNoName(t, name)
	}
}

// P17.1: of every byte, whether a name may begin with it and go on with it. The
// reader of texts tells which.
func TestBytesOfNames(t *testing.T) {
	taken := 0
	for c := range 256 {
		b := string([]byte{byte(c)})
		for _, name := range []string{b, b + "z", "z" + b, "z" + b + "z", "_" + b + b} {
			p := policyOf(filter(yes()), query(name, yes()))
			back, err := parse.Policy("id count " + name + " = true")
			if err != nil || !samePolicy(back, p) {
				wantNoName(t, name)
				continue
			}
			taken++
			wantText(t, p, "id\ncount "+name+" = true\n")
		}
	}
	if want := 53*5 + 10*3; taken != want {
		t.Errorf("%d names are taken, want %d", taken, want)
	}
}
