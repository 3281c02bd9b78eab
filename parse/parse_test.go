package parse

import (
	"errors"
	"math"
	"slices"
	"strconv"
	"strings"
	"sync"
	"testing"

	"tollbridge/api"
)

func yes() api.Term { return api.Term{Op: api.Yes} }
func no() api.Term  { return api.Term{Op: api.No} }

func is(field int8, n uint64) api.Term  { return api.Term{Op: api.Is, Field: field, N: n} }
func set(field int8, n uint64) api.Term { return api.Term{Op: api.Set, Field: field, N: n} }

func term(op int8, kids ...api.Term) api.Term { return api.Term{Op: op, Kids: kids} }

func filter(pred api.Term) api.Term { return term(api.Filter, pred) }

// either is what "if" says, written out.
func either(pred, a, b api.Term) api.Term {
	return term(api.Union,
		term(api.Then, filter(pred), a),
		term(api.Then, filter(term(api.Not, pred)), b))
}

func sameTerm(a, b api.Term) bool {
	return a.Op == b.Op && a.Field == b.Field && a.N == b.N && slices.EqualFunc(a.Kids, b.Kids, sameTerm)
}

func samePolicy(a, b api.Policy) bool {
	return sameTerm(a.Main, b.Main) && slices.EqualFunc(a.Queries, b.Queries, func(a, b api.Query) bool {
		return a.Name == b.Name && sameTerm(a.Pred, b.Pred)
	})
}

// told is a term in short, for what a failure tells.
func told(t api.Term) string {
	names := []string{"no", "yes", "is", "not", "and", "or", "filter", "set", "union", "then", "star"}
	s := names[t.Op]
	if t.Field != 0 || t.N != 0 {
		s += "." + strconv.Itoa(int(t.Field)) + "." + strconv.FormatUint(t.N, 10)
	}
	if len(t.Kids) == 0 {
		return s
	}
	kids := make([]string, len(t.Kids))
	for i, kid := range t.Kids {
		kids[i] = told(kid)
	}
	return s + "(" + strings.Join(kids, " ") + ")"
}

func toldPolicy(p api.Policy) string {
	s := told(p.Main)
	for _, q := range p.Queries {
		s += " " + q.Name + "=" + told(q.Pred)
	}
	return short(s)
}

// short keeps what a failure tells of a long text readable.
func short(text string) string {
	if len(text) > 200 {
		return strconv.Quote(text[:200]) + " and " + strconv.Itoa(len(text)-200) + " bytes more"
	}
	return strconv.Quote(text)
}

func wantPolicy(t *testing.T, text string, want api.Policy) {
	t.Helper()
	got, err := Policy(text)
	if err != nil {
		t.Errorf("Policy(%s): %s, want no fault", short(text), short(err.Error()))
		return
	}
	if !samePolicy(got, want) {
		t.Errorf("Policy(%s) = %s, want %s", short(text), toldPolicy(got), toldPolicy(want))
	}
}

func wantMain(t *testing.T, text string, want api.Term) {
	t.Helper()
	wantPolicy(t, text, api.Policy{Main: want})
}

// wantPred asks for it behind filter, if and count.
func wantPred(t *testing.T, text string, want api.Term) {
	t.Helper()
	wantMain(t, "filter "+text, filter(want))
	wantMain(t, "if "+text+" then id else drop", either(want, filter(yes()), filter(no())))
	wantPolicy(t, "id count q="+text, api.Policy{Main: filter(yes()), Queries: []api.Query{{Name: "q", Pred: want}}})
}

func wantFault(t *testing.T, text string, code api.Errno, at int, word string) {
	t.Helper()
	got, err := Policy(text)
	var f *api.Fault
	if !errors.As(err, &f) {
		t.Errorf("Policy(%s) = %s, %v, want a fault", short(text), toldPolicy(got), err)
		return
	}
	if want := (api.Fault{Code: code, At: at, Word: word}); *f != want {
		t.Errorf("Policy(%s): %s, want %s", short(text), short(f.Error()), short(want.Error()))
	}
	if !samePolicy(got, api.Policy{}) {
		t.Errorf("Policy(%s): %s beside a fault", short(text), toldPolicy(got))
	}
	if !errors.Is(err, code) {
		t.Errorf("Policy(%s): errors.Is does not find %v", short(text), code)
	}
}

// P16.1: the chapter's examples, row by row.
func TestExamples(t *testing.T) {
	wantMain(t, "filter to=10.0.0.1 ; port:=2", term(api.Then, filter(is(api.To, 167772161)), set(api.Port, 2)))
	wantMain(t, "id + drop ; id", term(api.Union, filter(yes()), term(api.Then, filter(no()), filter(yes()))))
	wantPolicy(t, "if proto=6 then port:=1 else drop count web = dport=80 & proto=6", api.Policy{
		Main:    either(is(api.Proto, 6), set(api.Port, 1), filter(no())),
		Queries: []api.Query{{Name: "web", Pred: term(api.And, is(api.DPort, 80), is(api.Proto, 6))}},
	})
	wantMain(t, "(src:=00:00:00:00:00:05)**", term(api.Star, term(api.Star, set(api.Src, 5))))
	wantFault(t, "filter", api.ErrSyntax, 6, "")
	wantFault(t, "port=1", api.ErrSyntax, 4, "=")
	wantPolicy(t, "vlan:=1; id count a=true count a=false", api.Policy{
		Main:    term(api.Then, set(api.Vlan, 1), filter(yes())),
		Queries: []api.Query{{Name: "a", Pred: yes()}, {Name: "a", Pred: no()}},
	})
}

// P16.1: the examples of the whole that are texts of policies.
func TestExamplesOfTheWhole(t *testing.T) {
	wantMain(t, "filter port = 1 ; port := 2", term(api.Then, filter(is(api.Port, 1)), set(api.Port, 2)))
	wantMain(t, "if switch = 1 then port := 4 else port := 2", either(is(api.Switch, 1), set(api.Port, 4), set(api.Port, 2)))
	wantMain(t, "( filter port = 1 ; port := 2 + filter port = 2 ; port := 3 ) *", term(api.Star, term(api.Union,
		term(api.Then, filter(is(api.Port, 1)), set(api.Port, 2)),
		term(api.Then, filter(is(api.Port, 2)), set(api.Port, 3)))))
}

// P16.1: a sign's term is over all its parts, and + holds less tightly than ;
// and that less than *.
func TestSigns(t *testing.T) {
	a, b, c, d := set(api.Port, 1), set(api.Port, 2), set(api.Port, 3), set(api.Port, 4)
	named := strings.NewReplacer("a", "port:=1", "b", "port:=2", "c", "port:=3", "d", "port:=4")
	for text, want := range map[string]api.Term{
		"a":             a,
		"(a)":           a,
		"((a))":         a,
		"a+b":           term(api.Union, a, b),
		"a+b+c+d":       term(api.Union, a, b, c, d),
		"a;b;c;d":       term(api.Then, a, b, c, d),
		"a+b;c+d":       term(api.Union, a, term(api.Then, b, c), d),
		"a;b+c;d":       term(api.Union, term(api.Then, a, b), term(api.Then, c, d)),
		"(a+b);(c+d)":   term(api.Then, term(api.Union, a, b), term(api.Union, c, d)),
		"(a+b)+c":       term(api.Union, term(api.Union, a, b), c),
		"a+(b+c)":       term(api.Union, a, term(api.Union, b, c)),
		"(a;b);c":       term(api.Then, term(api.Then, a, b), c),
		"a;(b;c)":       term(api.Then, a, term(api.Then, b, c)),
		"(a+b+c)":       term(api.Union, a, b, c),
		"a*":            term(api.Star, a),
		"a***":          term(api.Star, term(api.Star, term(api.Star, a))),
		"(a*)*":         term(api.Star, term(api.Star, a)),
		"a;b*":          term(api.Then, a, term(api.Star, b)),
		"(a;b)*":        term(api.Star, term(api.Then, a, b)),
		"a*+b*;c*":      term(api.Union, term(api.Star, a), term(api.Then, term(api.Star, b), term(api.Star, c))),
		"((a+b)*;c)*+d": term(api.Union, term(api.Star, term(api.Then, term(api.Star, term(api.Union, a, b)), c)), d),
		"a+a":           term(api.Union, a, a),
	} {
		wantMain(t, named.Replace(text), want)
	}
}

// P16.1: | holds less tightly than &, and that less than !.
func TestPredicates(t *testing.T) {
	a, b, c, d := is(api.Port, 1), is(api.Port, 2), is(api.Port, 3), is(api.Port, 4)
	not := func(p api.Term) api.Term { return term(api.Not, p) }
	named := strings.NewReplacer("a", "port=1", "b", "port=2", "c", "port=3", "d", "port=4")
	for text, want := range map[string]api.Term{
		"a":             a,
		"(a)":           a,
		"((a))":         a,
		"a|b":           term(api.Or, a, b),
		"a|b|c|d":       term(api.Or, a, b, c, d),
		"a&b&c&d":       term(api.And, a, b, c, d),
		"a|b&c|d":       term(api.Or, a, term(api.And, b, c), d),
		"a&b|c&d":       term(api.Or, term(api.And, a, b), term(api.And, c, d)),
		"(a|b)&(c|d)":   term(api.And, term(api.Or, a, b), term(api.Or, c, d)),
		"(a|b)|c":       term(api.Or, term(api.Or, a, b), c),
		"a|(b|c)":       term(api.Or, a, term(api.Or, b, c)),
		"(a&b)&c":       term(api.And, term(api.And, a, b), c),
		"a&(b&c)":       term(api.And, a, term(api.And, b, c)),
		"!a":            not(a),
		"!!!a":          not(not(not(a))),
		"!(!a)":         not(not(a)),
		"!a&b":          term(api.And, not(a), b),
		"!(a&b)":        not(term(api.And, a, b)),
		"!a|!b&!c":      term(api.Or, not(a), term(api.And, not(b), not(c))),
		"!(!(a|b)&c)|d": term(api.Or, not(term(api.And, not(term(api.Or, a, b)), c)), d),
	} {
		wantPred(t, named.Replace(text), want)
	}
	wantPred(t, "true", yes())
	wantPred(t, "false", no())
	wantPred(t, "!true|false&true", term(api.Or, not(yes()), term(api.And, no(), yes())))
	wantMain(t, "filter true*", term(api.Star, filter(yes())))
	wantMain(t, "filter true|false;id", term(api.Then, filter(term(api.Or, yes(), no())), filter(yes())))
	wantMain(t, "filter(true)+drop", term(api.Union, filter(yes()), filter(no())))
}

// P16.1: what stands behind else goes on as far as it can.
func TestIf(t *testing.T) {
	a, b, c := set(api.Port, 1), set(api.Port, 2), set(api.Port, 3)
	p, q := is(api.To, 7), is(api.To, 8)
	named := strings.NewReplacer("A", "port:=1", "B", "port:=2", "C", "port:=3", "P", "to=7", "Q", "to=8")
	for text, want := range map[string]api.Term{
		"if P then A else B":                      either(p, a, b),
		"if(P)then(A)else(B)":                     either(p, a, b),
		"if P then A+B else C":                    either(p, term(api.Union, a, b), c),
		"if P then A;B else C":                    either(p, term(api.Then, a, b), c),
		"if P then A else B+C":                    either(p, a, term(api.Union, b, c)),
		"if P then A else B;C":                    either(p, a, term(api.Then, b, c)),
		"if P then A else B*":                     either(p, a, term(api.Star, b)),
		"if P then A* else B":                     either(p, term(api.Star, a), b),
		"(if P then A else B)+C":                  term(api.Union, either(p, a, b), c),
		"(if P then A else B);C":                  term(api.Then, either(p, a, b), c),
		"(if P then A else B)*":                   term(api.Star, either(p, a, b)),
		"C+if P then A else B":                    term(api.Union, c, either(p, a, b)),
		"C;if P then A else B":                    term(api.Then, c, either(p, a, b)),
		"C+C;if P then A else B+C":                term(api.Union, c, term(api.Then, c, either(p, a, term(api.Union, b, c)))),
		"if P then A else if Q then B else C":     either(p, a, either(q, b, c)),
		"if P then if Q then A else B else C":     either(p, either(q, a, b), c),
		"if P&!Q|Q then A else B":                 either(term(api.Or, term(api.And, p, term(api.Not, q)), q), a, b),
		"if P then A else if Q then B else C+A":   either(p, a, either(q, b, term(api.Union, c, a))),
		"if P then C+if Q then A else B+A else B": either(p, term(api.Union, c, either(q, a, term(api.Union, b, a))), b),
	} {
		wantMain(t, named.Replace(text), want)
	}
}

// fields go by the chapter's list, which is that of package api.
func fields() []string {
	return []string{"src", "dst", "kind", "vlan", "from", "to", "proto", "sport", "dport", "port", "switch"}
}

// P16.1: every field, with numbers at the ends of widths, whatever they are.
func TestFields(t *testing.T) {
	if len(fields()) != api.Fields {
		t.Fatalf("%d fields", len(fields()))
	}
	numbers := map[string]uint64{
		"0x0": 0, "0xffffffffffffffff": math.MaxUint64, "0.0.0.0": 0, "255.255.255.255": math.MaxUint32, "10.0.0.1": 0x0a000001,
		"00:00:00:00:00:00": 0, "ff:ff:ff:ff:ff:ff": 1<<48 - 1, "0A:0b:0c:0d:0e:0F": 0x0a0b0c0d0e0f,
	}
	for _, width := range []int{0, 8, 12, 16, 32, 48, 63} {
		for _, n := range []uint64{1<<width - 1, 1 << width, 1<<width + 1} {
			numbers[strconv.FormatUint(n, 10)] = n
		}
	}
	numbers[strconv.FormatUint(math.MaxUint64, 10)] = math.MaxUint64
	for i, field := range fields() {
		for text, n := range numbers {
			wantMain(t, field+":="+text, set(int8(i), n))
			wantMain(t, field+" := "+text+" ; id", term(api.Then, set(int8(i), n), filter(yes())))
			wantPred(t, field+"="+text, is(int8(i), n))
			wantPred(t, "!("+field+" = "+text+" )", term(api.Not, is(int8(i), n)))
		}
		wantFault(t, field+":=18446744073709551616", api.ErrLong, len(field)+2, "18446744073709551616")
		wantFault(t, field, api.ErrSyntax, len(field), "")
		wantFault(t, field+":=", api.ErrSyntax, len(field)+2, "")
		wantFault(t, field+"=1", api.ErrSyntax, len(field), "=")
		wantFault(t, field+" 1", api.ErrSyntax, len(field)+1, "1")
		wantFault(t, field+":="+field, api.ErrSyntax, len(field)+2, field)
		wantFault(t, "filter "+field+":=1", api.ErrSyntax, 7+len(field), ":=")
		wantFault(t, "filter "+field+"=;", api.ErrSyntax, 8+len(field), ";")
		wantFault(t, strings.ToUpper(field)+":=1", api.ErrSyntax, 0, strings.ToUpper(field))
		wantFault(t, "_"+field+":=1", api.ErrSyntax, 0, "_"+field)
		wantFault(t, field+"1:=1", api.ErrSyntax, 0, field+"1")
	}
}

// P16.1: a query's name is any name but the words in quotes; two may be alike,
// and there may be more of them than a policy may have.
func TestQueries(t *testing.T) {
	main := filter(yes())
	for _, name := range []string{
		"a", "_", "Z9", "web", "counts", "Count", "COUNT", "id_", "_id", "iff", "TRUE", "ports", "Port", "elsewhere", "x" + strings.Repeat("9", 31),
		"not", "and", "or", "star", "union", "file", "pol", "pred", "name", "number",
	} {
		wantPolicy(t, "id count "+name+"=false", api.Policy{Main: main, Queries: []api.Query{{Name: name, Pred: no()}}})
	}
	quoted := append(fields(), "count", "filter", "id", "drop", "if", "then", "else", "true", "false")
	for _, name := range quoted {
		wantFault(t, "id count "+name+"=true", api.ErrSyntax, 9, name)
		wantFault(t, "id count "+name, api.ErrSyntax, 9, name)
		wantFault(t, "id count a=true count "+name+"=true", api.ErrSyntax, 22, name)
	}
	for _, word := range []string{"7", "0x1", "10.0.0.1", "00:00:00:00:00:01", ":=", "+", ";", "*", "=", "!", "&", "|", "(", ")", "{", "}"} {
		wantFault(t, "id count "+word+" = true", api.ErrSyntax, 9, word)
	}
	wantFault(t, "id count "+strings.Repeat("n", 33)+"=true", api.ErrLong, 9, strings.Repeat("n", 33))
	want := api.Policy{Main: main}
	text := "id"
	for i := range 100 {
		q := api.Query{Name: "q" + strconv.Itoa(i%40), Pred: is(api.Port, uint64(i))}
		want.Queries = append(want.Queries, q)
		text += " count " + q.Name + " = port = " + strconv.Itoa(i)
		wantPolicy(t, text, want)
	}
}

// P16.1: the fault is at the first word that can't stand there.
func TestFaults(t *testing.T) {
	for text, want := range map[string]api.Fault{
		"":                                 {},
		" # only a remark":                 {At: 16},
		"id id":                            {At: 3, Word: "id"},
		"id)":                              {At: 2, Word: ")"},
		"(id":                              {At: 3},
		"(id))":                            {At: 4, Word: ")"},
		"()":                               {At: 1, Word: ")"},
		"(id;)":                            {At: 4, Word: ")"},
		"id;":                              {At: 3},
		"id+":                              {At: 3},
		";id":                              {At: 0, Word: ";"},
		"+":                                {At: 0, Word: "+"},
		"*":                                {At: 0, Word: "*"},
		"id;*":                             {At: 3, Word: "*"},
		"id;;id":                           {At: 3, Word: ";"},
		"id+;id":                           {At: 3, Word: ";"},
		"id**id":                           {At: 4, Word: "id"},
		"true":                             {At: 0, Word: "true"},
		"!id":                              {At: 0, Word: "!"},
		"id | id":                          {At: 3, Word: "|"},
		"id & id":                          {At: 3, Word: "&"},
		"filter id":                        {At: 7, Word: "id"},
		"filter true + true":               {At: 14, Word: "true"},
		"filter (true":                     {At: 12},
		"filter (true ; id)":               {At: 13, Word: ";"},
		"filter (id)":                      {At: 8, Word: "id"},
		"filter true)":                     {At: 11, Word: ")"},
		"filter !":                         {At: 8},
		"filter true !":                    {At: 12, Word: "!"},
		"filter true &":                    {At: 13},
		"filter true & | true":             {At: 14, Word: "|"},
		"filter filter true":               {At: 7, Word: "filter"},
		"filter port=1=1":                  {At: 13, Word: "="},
		"port:=1=1":                        {At: 7, Word: "="},
		"port:=1 2":                        {At: 8, Word: "2"},
		"port:=x":                          {At: 6, Word: "x"},
		"port==1":                          {At: 4, Word: "="},
		"port:==1":                         {At: 6, Word: "="},
		"1":                                {At: 0, Word: "1"},
		"x":                                {At: 0, Word: "x"},
		"{id}":                             {At: 0, Word: "{"},
		"id}":                              {At: 2, Word: "}"},
		"filter {true}":                    {At: 7, Word: "{"},
		"if":                               {At: 2},
		"if id then id else id":            {At: 3, Word: "id"},
		"if true":                          {At: 7},
		"if true else id":                  {At: 8, Word: "else"},
		"if true then":                     {At: 12},
		"if true then true else id":        {At: 13, Word: "true"},
		"if true then id":                  {At: 15},
		"if true then id count a=true":     {At: 16, Word: "count"},
		"if true then id else":             {At: 20},
		"if true then id else id else id":  {At: 24, Word: "else"},
		"if true then id then id":          {At: 16, Word: "then"},
		"if (true then id else id":         {At: 9, Word: "then"},
		"(if true then id) else id":        {At: 16, Word: ")"},
		"then id":                          {At: 0, Word: "then"},
		"else id":                          {At: 0, Word: "else"},
		"count":                            {At: 0, Word: "count"},
		"count a=true":                     {At: 0, Word: "count"},
		"id count":                         {At: 8},
		"id count a":                       {At: 10},
		"id count a=":                      {At: 11},
		"id count a = id":                  {At: 13, Word: "id"},
		"id count a true":                  {At: 11, Word: "true"},
		"id count a:=true":                 {At: 10, Word: ":="},
		"id count a=true; id":              {At: 15, Word: ";"},
		"id count a=true id":               {At: 16, Word: "id"},
		"id count a=true)":                 {At: 15, Word: ")"},
		"(id count a=true)":                {At: 4, Word: "count"},
		"id; count a=true":                 {At: 4, Word: "count"},
		"id count a=true count":            {At: 21},
		"ID":                               {At: 0, Word: "ID"},
		"id ; 00:00:00:00:00:01":           {At: 5, Word: "00:00:00:00:00:01"},
		"id # drop\n drop":                 {At: 11, Word: "drop"},
		"port:=1.2.3.4 10.0.0.1 # )":       {At: 14, Word: "10.0.0.1"},
		"filter sport=1 & dport=2 | sport": {At: 32},
	} {
		wantFault(t, text, api.ErrSyntax, want.At, want.Word)
	}
}

// P16.1: scan's faults go ahead of all others, wherever they are.
func TestFaultsOfScan(t *testing.T) {
	wantFault(t, "id ; ? id", api.ErrWord, 5, "?")
	wantFault(t, "id id ?", api.ErrWord, 6, "?")
	wantFault(t, ") ) 01", api.ErrWord, 4, "01")
	wantFault(t, "id : = 1", api.ErrWord, 3, ":")
	wantFault(t, "filter to=1.2.3", api.ErrWord, 10, "1.2.3")
	wantFault(t, "port:=0x", api.ErrWord, 6, "0x")
	wantFault(t, "id"+strings.Repeat("*", 1000)+"\x00", api.ErrWord, 1002, "\x00")
	wantFault(t, "id id "+strings.Repeat("n", 33), api.ErrLong, 6, strings.Repeat("n", 33))
	wantFault(t, "port:=99999999999999999999", api.ErrLong, 6, "99999999999999999999")
	for b := range 256 {
		switch text := string([]byte{byte(b)}); {
		case strings.Contains(" \t\n\r#*", text): // all of these may stand behind id
		case strings.Contains("+;", text):
			wantFault(t, "id "+text, api.ErrSyntax, 4, "")
		case strings.Contains("=!&|(){}_", text) || isLetterOrDigit(byte(b)):
			wantFault(t, "id "+text, api.ErrSyntax, 3, text)
		default:
			wantFault(t, "id "+text, api.ErrWord, 3, text)
		}
	}
	blanks := strings.Repeat(" ", api.MaxText-2)
	wantMain(t, blanks+"id", filter(yes()))
	wantMain(t, "id"+blanks, filter(yes()))
	wantFault(t, blanks+"if", api.ErrSyntax, api.MaxText, "")
	wantFault(t, blanks+" )", api.ErrSyntax, api.MaxText-1, ")")
	wantFault(t, blanks+"id ", api.ErrLong, 0, "")
	wantFault(t, blanks+"???", api.ErrLong, 0, "")
	wantFault(t, strings.Repeat("(", api.MaxText+1), api.ErrLong, 0, "")
}

func isLetterOrDigit(b byte) bool {
	return '0' <= b && b <= '9' || 'a' <= b && b <= 'z' || 'A' <= b && b <= 'Z'
}

// R2, R3: no answer hangs on another, nor on what was written into it, nor on
// who asks at the same time.
func TestAnswersAlone(t *testing.T) {
	const text = "if port=1 & !to=2 then (src:=1 + id)* else drop ; id count a = port=1 | to=2 count b = true"
	want, err := Policy(text)
	if err != nil {
		t.Fatal(err)
	}
	first, _ := Policy(text)
	spoil(&first.Main)
	for i := range first.Queries {
		spoil(&first.Queries[i].Pred)
		first.Queries[i].Name = "x"
	}
	_ = append(first.Queries, api.Query{Name: "y"})
	var group sync.WaitGroup
	for range 8 {
		group.Go(func() { wantPolicy(t, text, want) })
	}
	group.Wait()
	_, err = Policy("id id")
	var f *api.Fault
	if !errors.As(err, &f) {
		t.Fatal(err)
	}
	*f = api.Fault{}
	wantFault(t, "id id", api.ErrSyntax, 3, "id")
}

func spoil(t *api.Term) {
	for i := range t.Kids {
		spoil(&t.Kids[i])
	}
	_ = append(t.Kids, api.Term{Op: 77})
	*t = api.Term{Op: 99, Field: 99, N: 99}
}

// R3: no two lists of an answer share memory, those of the predicate behind if
// among them.
func TestNothingShared(t *testing.T) {
	const pred = "!(port=1 | to=2 & !true | (port=3 & port=4 & port=5))"
	text := "if " + pred + " then (if " + pred + " then id else drop;id;id)* else src:=1+src:=2+src:=3 count a=" + pred + " count b=" + pred
	p, err := Policy(text)
	if err != nil {
		t.Fatal(err)
	}
	seen := map[*api.Term]int{}
	var walk func(t api.Term)
	walk = func(t api.Term) {
		room := t.Kids[:cap(t.Kids)]
		for i := range room {
			seen[&room[i]]++
		}
		for _, kid := range t.Kids {
			walk(kid)
		}
	}
	walk(p.Main)
	for _, q := range p.Queries {
		walk(q.Pred)
	}
	for place, n := range seen {
		if n > 1 {
			t.Errorf("%s stands in %d lists", told(*place), n)
		}
	}
	if len(seen) < 60 {
		t.Errorf("only %d terms", len(seen))
	}
}
