package parse

import (
	"errors"
	"math/rand"
	"slices"
	"strings"
	"testing"

	"tollbridge/api"
	"tollbridge/scan"
)

// grammar is the chapter's, with rules of their own for what stands in { }.
func grammar() map[string]string {
	return map[string]string{
		"FILE":    "POL QUERIES END",
		"QUERIES": "| count NAME = PRED QUERIES",
		"POL":     "SEQ SEQS",
		"SEQS":    "| + SEQ SEQS",
		"SEQ":     "STAR STARS",
		"STARS":   "| ; STAR STARS",
		"STAR":    "ATOM SIGNS",
		"SIGNS":   "| * SIGNS",
		"ATOM":    "filter PRED | FIELD := NUMBER | id | drop | if PRED then POL else POL | ( POL )",
		"PRED":    "AND ANDS",
		"ANDS":    "| OR AND ANDS",
		"AND":     "NOT NOTS",
		"NOTS":    "| & NOT NOTS",
		"NOT":     "! NOT | true | false | FIELD = NUMBER | ( PRED )",
		"FIELD":   "src | dst | kind | vlan | from | to | proto | sport | dport | port | switch",
	}
}

// symbolOf is the grammar's symbol for a word. OR stands for the sign that parts
// the ways of a rule.
func symbolOf(w api.Word) string {
	switch w.Kind {
	case api.WordEnd:
		return "END"
	case api.WordNumber:
		return "NUMBER"
	case api.WordSign:
		if w.Text == "|" {
			return "OR"
		}
		return w.Text
	}
	if slices.Contains(fields(), w.Text) || slices.Contains(strings.Fields("count filter id drop if then else true false"), w.Text) {
		return w.Text
	}
	return "NAME"
}

// plain tells which words may go on, by keeping every row of symbols that may
// still follow. A row is a number: that of its first symbol with its rest.
type plain struct {
	ways    map[string][][]string
	numbers map[row]int
	rows    []row
}

type row struct {
	symbol string
	rest   int
}

func newPlain() *plain {
	p := &plain{ways: map[string][][]string{}, numbers: map[row]int{}, rows: []row{{}}}
	for name, text := range grammar() {
		for _, way := range strings.Split(" "+text+" ", " | ") {
			p.ways[name] = append(p.ways[name], strings.Fields(way))
		}
	}
	return p
}

func (p *plain) number(r row) int {
	if n, ok := p.numbers[r]; ok {
		return n
	}
	p.rows = append(p.rows, r)
	p.numbers[r] = len(p.rows) - 1
	return len(p.rows) - 1
}

func (p *plain) begin() []int {
	return []int{p.number(row{symbol: "FILE"})}
}

// step is what may follow behind the symbol; nothing, if it can't stand here.
func (p *plain) step(rows []int, symbol string) []int {
	var next []int
	seen := map[int]bool{}
	work := slices.Clone(rows)
	for len(work) > 0 {
		n := work[len(work)-1]
		work = work[:len(work)-1]
		if seen[n] {
			continue
		}
		seen[n] = true
		r := p.rows[n]
		if r.symbol == symbol {
			next = append(next, r.rest)
		}
		for _, way := range p.ways[r.symbol] {
			rest := r.rest
			for _, s := range slices.Backward(way) {
				rest = p.number(row{s, rest})
			}
			work = append(work, rest)
		}
	}
	slices.Sort(next)
	return slices.Compact(next)
}

// firstWrong is the first word with which the words up to there begin no file,
// or how many words there are.
func (p *plain) firstWrong(words []api.Word) int {
	rows := p.begin()
	for i, w := range words {
		if rows = p.step(rows, symbolOf(w)); len(rows) == 0 {
			return i
		}
	}
	return len(words)
}

// wantAsPlain holds Policy against the grammar, and tells whether the words are
// of it.
func wantAsPlain(t *testing.T, text string) bool {
	t.Helper()
	words, fault := scan.All(text)
	if fault != nil {
		var f *api.Fault
		if !errors.As(fault, &f) {
			t.Fatal(fault)
		}
		wantFault(t, text, f.Code, f.At, f.Word)
		return false
	}
	if i := newPlain().firstWrong(words); i < len(words) {
		wantFault(t, text, api.ErrSyntax, words[i].At, words[i].Text)
		return false
	}
	policy, err := Policy(text)
	if err != nil {
		if len(words) < api.MaxDepth/2 { // too few words to say too much
			t.Errorf("Policy(%s): %v, want no fault", short(text), err)
		}
		wantFault(t, text, api.ErrTooBig, 0, "")
		return true
	}
	many, deep := terms(policy.Main), depth(policy.Main)
	for _, q := range policy.Queries {
		many += terms(q.Pred)
		deep = max(deep, depth(q.Pred))
	}
	if many > api.MaxTerms || deep > api.MaxDepth {
		t.Errorf("Policy(%s): %d terms, %d deep", short(text), many, deep)
	}
	return true
}

// P16.3: all beginnings of files of few words, with every word behind them.
func TestAllBeginnings(t *testing.T) {
	p := newPlain()
	alphabet := strings.Fields("filter if then else id ( ) + ; * ! & | true port = := 7 count name {")
	taken, refused := 0, 0
	var grow func(text string, rows []int, left int)
	grow = func(text string, rows []int, left int) {
		if len(p.step(rows, "END")) > 0 {
			taken++
			if _, err := Policy(text); err != nil {
				t.Errorf("Policy(%q): %v", text, err)
			}
		} else {
			wantFault(t, text, api.ErrSyntax, len(text), "")
		}
		if left == 0 {
			return
		}
		for _, word := range alphabet {
			list, _ := scan.All(word)
			next := p.step(rows, symbolOf(list[0]))
			if len(next) > 0 {
				grow(text+word+" ", next, left-1)
				continue
			}
			refused++
			wantFault(t, text+word, api.ErrSyntax, len(text), word)
			wantFault(t, text+word+" id ) { ", api.ErrSyntax, len(text), word)
		}
	}
	grow("", p.begin(), 7)
	if taken < 500 || refused < 50000 {
		t.Errorf("%d texts taken, %d refused: too few to tell", taken, refused)
	}
}

// maker makes words at random, and what they must say.
type maker struct {
	*rand.Rand
	words []string
}

func (m *maker) say(words ...string) { m.words = append(m.words, words...) }

// file makes one with parts in one another as deep as it is told.
func (m *maker) file(deep int) api.Policy {
	p := api.Policy{Main: m.pol(deep)}
	for range m.Intn(4) {
		name := string("abcxyzABC_"[m.Intn(10)]) + "Q" + string("0189_z"[m.Intn(6)])
		m.say("count", name, "=")
		p.Queries = append(p.Queries, api.Query{Name: name, Pred: m.pred(deep)})
	}
	return p
}

// parts makes one to three, the last of which is told that it is.
func (m *maker) parts(op int8, sign string, part func(last bool) api.Term) api.Term {
	n := 1 + m.Intn(3)*m.Intn(2)
	var kids []api.Term
	for i := range n {
		if i > 0 {
			m.say(sign)
		}
		kids = append(kids, part(i == n-1))
	}
	if n == 1 {
		return kids[0]
	}
	return term(op, kids...)
}

func (m *maker) pol(deep int) api.Term {
	return m.parts(api.Union, "+", func(last bool) api.Term {
		return m.parts(api.Then, ";", func(lastToo bool) api.Term { return m.star(deep, last && lastToo) })
	})
}

func (m *maker) star(deep int, last bool) api.Term {
	stars := m.Intn(3) * m.Intn(2)
	t := m.atom(deep, last && stars == 0)
	for range stars {
		m.say("*")
		t = term(api.Star, t)
	}
	return t
}

// atom makes an if without brackets only where it is the last, because else goes
// on as far as it can.
func (m *maker) atom(deep int, last bool) api.Term {
	kind := m.Intn(7)
	switch {
	case kind == 0:
		m.say("id")
		return filter(yes())
	case kind == 1:
		m.say("drop")
		return filter(no())
	case kind == 2 || deep == 0:
		field, n := m.pair(":=")
		return set(field, n)
	case kind == 3:
		m.say("filter")
		return filter(m.pred(deep - 1))
	case kind == 4 && last:
		return m.choice(deep - 1)
	case kind == 4:
		m.say("(")
		t := m.choice(deep - 1)
		m.say(")")
		return t
	}
	m.say("(")
	t := m.pol(deep - 1)
	m.say(")")
	return t
}

func (m *maker) choice(deep int) api.Term {
	m.say("if")
	pred := m.pred(deep)
	m.say("then")
	a := m.pol(deep)
	m.say("else")
	return either(pred, a, m.pol(deep))
}

func (m *maker) pred(deep int) api.Term {
	return m.parts(api.Or, "|", func(bool) api.Term {
		return m.parts(api.And, "&", func(bool) api.Term { return m.not(deep) })
	})
}

func (m *maker) not(deep int) api.Term {
	kind := m.Intn(6)
	switch {
	case kind == 0:
		m.say("true")
		return yes()
	case kind == 1:
		m.say("false")
		return no()
	case kind <= 3 || deep == 0:
		field, n := m.pair("=")
		return is(field, n)
	case kind == 4:
		m.say("!")
		return term(api.Not, m.not(deep-1))
	}
	m.say("(")
	t := m.pred(deep - 1)
	m.say(")")
	return t
}

func (m *maker) pair(sign string) (int8, uint64) {
	numbers := []string{"0", "1", "80", "65535", "18446744073709551615", "0x1F", "0xffffffffffffffff", "10.0.0.1", "255.255.255.255", "00:00:00:00:00:0a", "aB:cd:ef:01:23:45"}
	text := numbers[m.Intn(len(numbers))]
	list, _ := scan.All(text)
	field := m.Intn(api.Fields)
	m.say(fields()[field], sign, text)
	return int8(field), list[0].N
}

// laid is the words with blanks and remarks between them, and where each stands;
// the last place is the end. Nothing stands between only where a sign parts them.
func (m *maker) laid(words []string) (string, []int) {
	gaps := []string{" ", "\t", "\n", "\r", "#\n", "# id ( 01 .\n", "#é\xff:\r\n", " # a # b\n\n"}
	isSign := func(word string) bool { return strings.Contains(":=+;*=!&|(){}", word) }
	gap := func() string {
		s := ""
		for range 1 + m.Intn(2) {
			s += gaps[m.Intn(len(gaps))]
		}
		return s
	}
	text, last := "", "("
	var places []int
	for _, word := range words {
		if !isSign(last) && !isSign(word) || m.Intn(2) > 0 {
			text += gap()
		}
		places = append(places, len(text))
		text += word
		last = word
	}
	if m.Intn(2) > 0 {
		text += gap() + []string{"", "# the end"}[m.Intn(2)]
	}
	return text, append(places, len(text))
}

// P16.1, P16.2: words made at random say what they must, whatever stands between.
func TestMadeAtRandom(t *testing.T) {
	m := &maker{Rand: rand.New(rand.NewSource(16))}
	sizes := 0
	for range 6000 {
		m.words = nil
		want := m.file(m.Intn(5))
		if len(m.words) > 2000 {
			continue
		}
		sizes += len(m.words)
		wantPolicy(t, strings.Join(m.words, " "), want)
		for range 3 {
			text, _ := m.laid(m.words)
			wantPolicy(t, text, want)
		}
	}
	if sizes < 100000 {
		t.Errorf("%d words: too few to tell", sizes)
	}
}

// P16.2, P16.3: words that are taken away, doubled, put in, or changed: whether
// they are of the grammar, where the fault is, and the same with other blanks.
func TestChangedAtRandom(t *testing.T) {
	m := &maker{Rand: rand.New(rand.NewSource(17))}
	more := strings.Fields("filter if then else id drop ( ) + ; * ! & | true false port to = := 7 10.0.0.1 count name { }")
	p := newPlain()
	taken, refused := 0, 0
	for range 20000 {
		m.words = nil
		m.file(m.Intn(3))
		if len(m.words) > 60 {
			continue
		}
		words := m.words
		for range 1 + m.Intn(2) {
			at := m.Intn(len(words))
			word := more[m.Intn(len(more))]
			switch m.Intn(5) {
			case 0:
				words = slices.Delete(slices.Clone(words), at, at+1)
			case 1:
				words = slices.Insert(slices.Clone(words), at, words[at])
			case 2:
				words = slices.Insert(slices.Clone(words), at, word)
			case 3:
				words = slices.Clone(words)
				words[at] = word
			case 4:
				words = slices.Clone(words[:at])
			}
			if len(words) == 0 {
				words = []string{word}
			}
		}
		if wantLaid(t, m, p, words) {
			taken++
		} else {
			refused++
		}
	}
	if taken < 1000 || refused < 5000 {
		t.Errorf("%d texts taken, %d refused: too few to tell", taken, refused)
	}
}

// wantLaid asks of some layouts of the words the same policy, or the fault at the
// same word.
func wantLaid(t *testing.T, m *maker, p *plain, words []string) bool {
	t.Helper()
	joined := strings.Join(words, " ")
	list, err := scan.All(joined)
	if err != nil {
		t.Fatal(err)
	}
	wrong := p.firstWrong(list)
	want, err := Policy(joined)
	if (err == nil) != (wrong == len(list)) {
		t.Errorf("Policy(%s): %v", short(joined), err)
	}
	for range 3 {
		text, places := m.laid(words)
		if wrong == len(list) {
			wantPolicy(t, text, want)
		} else {
			wantFault(t, text, api.ErrSyntax, places[wrong], list[wrong].Text)
		}
	}
	return wrong == len(list)
}

// P16.3: a text with any one byte changed, taken away, or with its end cut off.
func TestChangedBytes(t *testing.T) {
	text := "if dst=00:1a:2B:3c:4D:5e & !(from=10.2.25.0|true) then (id)* ; port:=0xF # to\nelse drop + src:=1 count a=true count b_9=!false"
	if !wantAsPlain(t, text) {
		t.Fatal("the text itself has a fault")
	}
	for at := range len(text) {
		for b := range 256 {
			wantAsPlain(t, text[:at]+string([]byte{byte(b)})+text[at+1:])
		}
		wantAsPlain(t, text[:at])
		wantAsPlain(t, text[at:])
		wantAsPlain(t, text[:at]+text[at+1:])
	}
}

// FuzzPolicy: no text makes Policy panic, and it takes what the grammar has.
func FuzzPolicy(f *testing.F) {
	for _, text := range []string{
		"", "id", "filter port = 1 ; port := 2", "if switch=1 then port:=4 else port:=2 count web = dport=80 & !proto=6 | true",
		"(filter true + drop)** ; src:=00:00:00:00:00:05 # x\n", "id count port = true", "{", "id count a=(", "if if",
	} {
		f.Add(text)
	}
	f.Fuzz(func(t *testing.T, text string) { wantAsPlain(t, text) })
}
