package show

import (
	"slices"
	"strconv"
	"strings"
	"sync"
	"testing"

	"tollbridge/api"
	"tollbridge/parse"
)

func yes() api.Term { return api.Term{Op: api.Yes} }
func no() api.Term  { return api.Term{Op: api.No} }

func is(field int8, n uint64) api.Term  { return api.Term{Op: api.Is, Field: field, N: n} }
func set(field int8, n uint64) api.Term { return api.Term{Op: api.Set, Field: field, N: n} }

func term(op int8, kids ...api.Term) api.Term { return api.Term{Op: op, Kids: kids} }

func filter(pred api.Term) api.Term { return term(api.Filter, pred) }
func not(pred api.Term) api.Term    { return term(api.Not, pred) }
func star(pol api.Term) api.Term    { return term(api.Star, pol) }

func query(name string, pred api.Term) api.Query { return api.Query{Name: name, Pred: pred} }

func policyOf(main api.Term, queries ...api.Query) api.Policy {
	return api.Policy{Main: main, Queries: queries}
}

func sameTerm(a, b api.Term) bool {
	return a.Op == b.Op && a.Field == b.Field && a.N == b.N && slices.EqualFunc(a.Kids, b.Kids, sameTerm)
}

func samePolicy(a, b api.Policy) bool {
	return sameTerm(a.Main, b.Main) && slices.EqualFunc(a.Queries, b.Queries, func(a, b api.Query) bool {
		return a.Name == b.Name && sameTerm(a.Pred, b.Pred)
	})
}

// short keeps what a failure tells of a long text readable.
func short(text string) string {
	if len(text) > 200 {
		return strconv.Quote(text[:200]) + " and " + strconv.Itoa(len(text)-200) + " bytes more"
	}
	return strconv.Quote(text)
}

// wantBack asks for P17.2 of a text that Text told of p.
func wantBack(t *testing.T, p api.Policy, text string) {
	t.Helper()
	back, err := parse.Policy(text)
	if err != nil {
		t.Errorf("%s is not read: %s", short(text), short(err.Error()))
		return
	}
	if !samePolicy(back, p) {
		t.Errorf("%s is read as another policy", short(text))
	}
	if again, e := Text(back); again != text || e != api.OK {
		t.Errorf("%s read and told again is %s, %v", short(text), short(again), e)
	}
}

func wantText(t *testing.T, p api.Policy, want string) {
	t.Helper()
	got, e := Text(p)
	if got != want || e != api.OK {
		t.Errorf("Text: %s, %v, want %s", short(got), e, short(want))
		return
	}
	wantBack(t, p, got)
}

// wantMain asks for a policy without queries, whose text is the line.
func wantMain(t *testing.T, main api.Term, line string) {
	t.Helper()
	wantText(t, policyOf(main), line+"\n")
}

// wantPred asks for a predicate, which is not true or false alone, behind filter
// and count.
func wantPred(t *testing.T, pred api.Term, words string) {
	t.Helper()
	wantMain(t, filter(pred), "filter "+words)
	wantText(t, policyOf(filter(no()), query("q", pred)), "drop\ncount q = "+words+"\n")
}

func wantError(t *testing.T, p api.Policy, want api.Errno, what string) {
	t.Helper()
	if got, e := Text(p); got != "" || e != want {
		t.Errorf("%s: Text: %s, %v, want none, %v", what, short(got), e, want)
	}
}

// P17.1: the chapter's examples, row by row.
func TestExamples(t *testing.T) {
	first := term(api.Then, filter(is(api.Port, 1)), set(api.Port, 2))
	wantText(t, policyOf(first), "filter port = 1 ; port := 2\n")
	wantText(t, policyOf(term(api.Union, first, filter(no()))), "filter port = 1 ; port := 2 + drop\n")
	wantText(t, policyOf(star(term(api.Then, set(api.Port, 1), filter(not(term(api.Or, is(api.Dst, 1), yes())))))),
		"( port := 1 ; filter ! ( dst = 00:00:00:00:00:01 | true ) ) *\n")
	wantText(t, policyOf(filter(yes()), query("a", is(api.Kind, 2048))), "id\ncount a = kind = 2048\n")
}

// P17.2: texts of policies that stand in the document.
func TestExamplesOfTheWhole(t *testing.T) {
	for text, want := range map[string]string{
		"filter port = 1 ; port := 2":                                     "filter port = 1 ; port := 2\n",
		"if switch = 1 then port := 4 else port := 2":                     "filter switch = 1 ; port := 4 + filter ! switch = 1 ; port := 2\n",
		"( filter port = 1 ; port := 2 + filter port = 2 ; port := 3 ) *": "( filter port = 1 ; port := 2 + filter port = 2 ; port := 3 ) *\n",
		"id count web = dport = 80":                                       "id\ncount web = dport = 80\n",
		"filter to=10.0.0.1 ; port:=2":                                    "filter to = 10.0.0.1 ; port := 2\n",
		"id + drop ; id":                                                  "id + drop ; id\n",
		"(src:=00:00:00:00:00:05)**":                                      "( ( src := 00:00:00:00:00:05 ) * ) *\n",
		"vlan:=1; id count a=true count a=false":                          "vlan := 1 ; id\ncount a = true\ncount a = false\n",
		"if proto=6 then port:=1 else drop count web = dport=80 & proto=6": "filter proto = 6 ; port := 1 + filter ! proto = 6 ; drop\n" +
			"count web = dport = 80 & proto = 6\n",
	} {
		p, err := parse.Policy(text)
		if err != nil {
			t.Fatal(text, err)
		}
		wantText(t, p, want)
	}
}

// P17.1: each row of the table for predicates, over each kind of kid.
func TestPredicates(t *testing.T) {
	a, b, c := is(api.Port, 1), is(api.Port, 2), is(api.Port, 3)
	and, or := term(api.And, a, b), term(api.Or, a, b)
	named := strings.NewReplacer("a", "port = 1", "b", "port = 2", "c", "port = 3", "T", "true", "F", "false")
	for words, pred := range map[string]api.Term{
		"a":                               a,
		"! a":                             not(a),
		"! T":                             not(yes()),
		"! F":                             not(no()),
		"! ! a":                           not(not(a)),
		"! ! ! F":                         not(not(not(no()))),
		"! ( a & b )":                     not(and),
		"! ( a | b )":                     not(or),
		"! ! ( a | b )":                   not(not(or)),
		"a & b":                           and,
		"T & F":                           term(api.And, yes(), no()),
		"a & b & c":                       term(api.And, a, b, c),
		"! a & ! b":                       term(api.And, not(a), not(b)),
		"( a & b ) & c":                   term(api.And, and, c),
		"c & ( a & b )":                   term(api.And, c, and),
		"( a | b ) & c":                   term(api.And, or, c),
		"c & ( a | b ) & c":               term(api.And, c, or, c),
		"( a | b ) & ( a & b ) & ! a":     term(api.And, or, and, not(a)),
		"a | b":                           or,
		"F | T | F":                       term(api.Or, no(), yes(), no()),
		"a | b | c | a":                   term(api.Or, a, b, c, a),
		"! a | ! b":                       term(api.Or, not(a), not(b)),
		"a & b | c":                       term(api.Or, and, c),
		"c | a & b":                       term(api.Or, c, and),
		"( a | b ) | c":                   term(api.Or, or, c),
		"c | ( a | b )":                   term(api.Or, c, or),
		"a & b | ( a | b ) | ! ( a | b )": term(api.Or, and, or, not(or)),
		"( a & b | c ) & c":               term(api.And, term(api.Or, and, c), c),
		"( ( a | b ) & c | c ) & c":       term(api.And, term(api.Or, term(api.And, or, c), c), c),
	} {
		wantPred(t, pred, named.Replace(words))
	}
	wantText(t, policyOf(filter(yes()), query("y", yes()), query("n", no())), "id\ncount y = true\ncount n = false\n")
}

// P17.1: each row of the table for policies, over each kind of kid.
func TestPolicies(t *testing.T) {
	a, b, c := set(api.Port, 1), set(api.Port, 2), set(api.Port, 3)
	f, g := filter(is(api.To, 0)), filter(term(api.Or, yes(), no()))
	union, then := term(api.Union, a, b), term(api.Then, a, b)
	named := strings.NewReplacer("A", "port := 1", "B", "port := 2", "C", "port := 3", "F", "filter to = 0.0.0.0", "G", "filter true | false")
	for words, main := range map[string]api.Term{
		"id":                                filter(yes()),
		"drop":                              filter(no()),
		"filter ! true":                     filter(not(yes())),
		"F":                                 f,
		"G":                                 g,
		"A":                                 a,
		"( A ) *":                           star(a),
		"( id ) *":                          star(filter(yes())),
		"( drop ) *":                        star(filter(no())),
		"( F ) *":                           star(f),
		"( G ) *":                           star(g),
		"( A ; B ) *":                       star(then),
		"( A + B ) *":                       star(union),
		"( ( A ) * ) *":                     star(star(a)),
		"( ( ( A + B ) * ) * ) *":           star(star(star(union))),
		"A ; B":                             then,
		"A ; B ; C ; A":                     term(api.Then, a, b, c, a),
		"F ; G ; id ; drop":                 term(api.Then, f, g, filter(yes()), filter(no())),
		"( A ) * ; B":                       term(api.Then, star(a), b),
		"( A ; B ) ; C":                     term(api.Then, then, c),
		"C ; ( A ; B )":                     term(api.Then, c, then),
		"( A + B ) ; C":                     term(api.Then, union, c),
		"C ; ( A + B ) ; C":                 term(api.Then, c, union, c),
		"A + B":                             union,
		"A + B + C + A":                     term(api.Union, a, b, c, a),
		"F + G + id + drop":                 term(api.Union, f, g, filter(yes()), filter(no())),
		"( A ) * + B":                       term(api.Union, star(a), b),
		"A ; B + C":                         term(api.Union, then, c),
		"C + A ; B":                         term(api.Union, c, then),
		"( A + B ) + C":                     term(api.Union, union, c),
		"C + ( A + B )":                     term(api.Union, c, union),
		"A ; B + ( A + B ) + ( A + B ) *":   term(api.Union, then, union, star(union)),
		"( A ; B + C ) ; C":                 term(api.Then, term(api.Union, then, c), c),
		"( ( A + B ) ; C + ( A ; B ) * ) *": star(term(api.Union, term(api.Then, union, c), star(then))),
	} {
		wantMain(t, main, named.Replace(words))
	}
}

// numbersOf are texts of numbers that fit a field, its ends among them.
func numbersOf(field int8) map[string]uint64 {
	switch field {
	case api.Src, api.Dst:
		return map[string]uint64{
			"00:00:00:00:00:00": 0, "00:00:00:00:00:01": 1, "ff:ff:ff:ff:ff:ff": 1<<48 - 1, "80:00:00:00:00:00": 1 << 47,
			"0a:1b:2c:3d:4e:5f": 0x0a1b2c3d4e5f, "01:23:45:67:89:ab": 0x0123456789ab, "cd:ef:00:10:f0:09": 0xcdef0010f009,
		}
	case api.From, api.To:
		return map[string]uint64{
			"0.0.0.0": 0, "0.0.0.1": 1, "255.255.255.255": 1<<32 - 1, "128.0.0.0": 1 << 31,
			"10.0.0.1": 0x0a000001, "1.20.99.100": 0x01146364, "192.168.9.254": 0xc0a809fe,
		}
	case api.Vlan:
		return map[string]uint64{"0": 0, "1": 1, "10": 10, "2048": 2048, "4095": 4095}
	case api.Proto:
		return map[string]uint64{"0": 0, "1": 1, "17": 17, "128": 128, "255": 255}
	}
	return map[string]uint64{"0": 0, "1": 1, "9": 9, "10": 10, "2048": 2048, "33024": 0x8100, "32768": 1 << 15, "65535": 65535}
}

// fields go by the chapters' list, which is that of package api.
func fields() []string {
	return []string{"src", "dst", "kind", "vlan", "from", "to", "proto", "sport", "dport", "port", "switch"}
}

func widths() []int { return []int{48, 48, 16, 12, 32, 32, 8, 16, 16, 16, 16} }

// P17.1: a number is written as its field has it, from 0 to the end of its width.
func TestNumbers(t *testing.T) {
	if len(fields()) != api.Fields {
		t.Fatalf("%d fields", len(fields()))
	}
	for i, name := range fields() {
		field := int8(i)
		for text, n := range numbersOf(field) {
			wantMain(t, set(field, n), name+" := "+text)
			wantMain(t, term(api.Then, set(field, n), filter(yes())), name+" := "+text+" ; id")
			wantPred(t, is(field, n), name+" = "+text)
			wantPred(t, not(is(field, n)), "! "+name+" = "+text)
		}
		past := uint64(1) << widths()[i]
		wantMain(t, set(field, past-1), name+" := "+number(field, past-1))
		for _, n := range []uint64{past, past + 1, 2 * past, 1 << 48, 1 << 63, 1<<64 - 1} {
			wantNone(t, set(field, n), name+" "+strconv.FormatUint(n, 10))
			wantNone(t, is(field, n), name+" "+strconv.FormatUint(n, 10))
		}
	}
}

// P17.1: a line each for queries, in order, whatever they are called; two may be
// alike.
func TestQueries(t *testing.T) {
	for _, name := range []string{
		"a", "z", "A", "Z", "_", "__", "Z9", "a0123456789", "web", "counts", "Count", "COUNT", "id_", "_id", "iff", "TRUE", "ports", "Port", "elsewhere",
		"ab", "deadbeef", "x" + strings.Repeat("9", 31), strings.Repeat("_", 32), "not", "and", "or", "star", "union", "file", "pol", "name", "number",
	} {
		wantText(t, policyOf(filter(yes()), query(name, no())), "id\ncount "+name+" = false\n")
	}
	main := term(api.Union, filter(yes()), filter(no()))
	p, want := policyOf(main), "id + drop\n"
	for i := range api.MaxQueries {
		name := "q" + strconv.Itoa((i*7)%20)
		p.Queries = append(p.Queries, query(name, is(api.Port, uint64(i))))
		want += "count " + name + " = port = " + strconv.Itoa(i) + "\n"
		wantText(t, p, want)
	}
	wantText(t, policyOf(star(main), query("b", yes()), query("a", term(api.Or, yes(), no())), query("b", not(term(api.And, no(), yes())))),
		"( id + drop ) *\ncount b = true\ncount a = true | false\ncount b = ! ( false & true )\n")
}

// R6: an empty list is none, nil or not.
func TestEmptyLists(t *testing.T) {
	empty := func(op int8) api.Term { return api.Term{Op: op, Kids: []api.Term{}} }
	p := api.Policy{Main: filter(empty(api.Yes)), Queries: []api.Query{}}
	if got, e := Text(p); got != "id\n" || e != api.OK {
		t.Errorf("%s, %v", short(got), e)
	}
	p = policyOf(term(api.Then, empty(api.Set), filter(empty(api.Is))), query("n", empty(api.No)))
	want := "src := 00:00:00:00:00:00 ; filter src = 00:00:00:00:00:00\ncount n = false\n"
	if got, e := Text(p); got != want || e != api.OK {
		t.Errorf("%s, %v", short(got), e)
	}
}

// roomy is a copy of a term all of whose lists have a mark in the room behind
// their ends.
func roomy(t api.Term) api.Term {
	kids := make([]api.Term, 0, len(t.Kids)+2)
	for _, kid := range t.Kids {
		kids = append(kids, roomy(kid))
	}
	_ = append(kids, api.Term{Op: 77}, api.Term{Op: 78})
	t.Kids = kids
	return t
}

// isRoomy tells whether the marks stand where roomy put them.
func isRoomy(t api.Term) bool {
	room := t.Kids[:len(t.Kids)+2]
	return room[len(t.Kids)].Op == 77 && room[len(t.Kids)+1].Op == 78 && !slices.ContainsFunc(t.Kids, func(kid api.Term) bool { return !isRoomy(kid) })
}

// R2, R3: nothing that is handed in is changed, and no answer hangs on who asks
// at the same time.
func TestAnswersAlone(t *testing.T) {
	const text = "( filter port = 1 & ! to = 0.0.0.2 ; src := 00:00:00:00:00:01 + id ) * ; drop\ncount a = port = 1 | to = 0.0.0.2\ncount b = true\n"
	want, err := parse.Policy(text)
	if err != nil {
		t.Fatal(err)
	}
	p := api.Policy{Main: roomy(want.Main), Queries: make([]api.Query, 0, 3)}
	for _, q := range want.Queries {
		p.Queries = append(p.Queries, query(q.Name, roomy(q.Pred)))
	}
	_ = append(p.Queries, query("mark", no()))
	var group sync.WaitGroup
	for range 8 {
		group.Go(func() { wantText(t, p, text) })
	}
	group.Wait()
	if !samePolicy(p, want) || p.Queries[:3][2].Name != "mark" {
		t.Error("the policy was changed")
	}
	if !isRoomy(p.Main) || !isRoomy(p.Queries[0].Pred) || !isRoomy(p.Queries[1].Pred) {
		t.Error("the room behind a list was changed")
	}
	p.Main.Op = 99
	wantError(t, p, api.ErrPolicy, "a changed one")
	wantText(t, want, text)
}
