package show

import (
	"math/rand"
	"slices"
	"strconv"
	"strings"
	"testing"

	"tollbridge/api"
	"tollbridge/parse"
)

// plainWords are a term's words and how tightly they hold, told from the inside
// out, each row of the table a line.
func plainWords(t api.Term) (string, int) {
	in := func(i, asked int) string {
		words, tight := plainWords(t.Kids[i])
		if tight < asked {
			return "( " + words + " )"
		}
		return words
	}
	joined := func(sign string, asked int) string {
		words := in(0, asked)
		for i := 1; i < len(t.Kids); i++ {
			words += " " + sign + " " + in(i, asked)
		}
		return words
	}
	switch t.Op {
	case api.Yes:
		return "true", 3
	case api.No:
		return "false", 3
	case api.Is:
		return fields()[t.Field] + " = " + plainNumber(t.Field, t.N), 3
	case api.Not:
		return "! " + in(0, 2), 2
	case api.And:
		return joined("&", 2), 1
	case api.Or:
		return joined("|", 1), 0
	case api.Filter:
		switch words := in(0, 0); words {
		case "true":
			return "id", 2
		case "false":
			return "drop", 2
		default:
			return "filter " + words, 2
		}
	case api.Set:
		return fields()[t.Field] + " := " + plainNumber(t.Field, t.N), 2
	case api.Star:
		return "( " + in(0, 0) + " ) *", 2
	case api.Then:
		return joined(";", 2), 1
	}
	return joined("+", 1), 0
}

func plainNumber(field int8, n uint64) string {
	parts := func(count int, base int, wide int, between string) string {
		var row []string
		for range count {
			part := strconv.FormatUint(n%256, base)
			row = append(row, strings.Repeat("0", max(0, wide-len(part)))+part)
			n /= 256
		}
		slices.Reverse(row)
		return strings.Join(row, between)
	}
	switch fields()[field] {
	case "src", "dst":
		return parts(6, 16, 2, ":")
	case "from", "to":
		return parts(4, 10, 1, ".")
	}
	return strconv.FormatUint(n, 10)
}

func plainText(p api.Policy) string {
	text, _ := plainWords(p.Main)
	for _, q := range p.Queries {
		words, _ := plainWords(q.Pred)
		text += "\ncount " + q.Name + " = " + words
	}
	return text + "\n"
}

// maker makes policies at random.
type maker struct{ *rand.Rand }

func (m maker) policy(deep int) api.Policy {
	p := policyOf(m.pol(deep))
	for range m.Intn(4) {
		name := string("abcxyzABC_"[m.Intn(10)]) + "Q" + string("0189_z"[m.Intn(6)])
		p.Queries = append(p.Queries, query(name, m.pred(deep)))
	}
	return p
}

func (m maker) kids(op int8, made func() api.Term) api.Term {
	t := api.Term{Op: op}
	for range 2 + m.Intn(3)*m.Intn(2) {
		t.Kids = append(t.Kids, made())
	}
	return t
}

func (m maker) pol(deep int) api.Term {
	op := int8(api.Filter + m.Intn(5))
	if deep == 0 {
		op = int8(api.Filter + m.Intn(2))
	}
	below := func() api.Term { return m.pol(deep - 1) }
	switch op {
	case api.Filter:
		return filter(m.pred(max(0, deep-1)))
	case api.Set:
		return m.pair(op)
	case api.Star:
		return star(below())
	}
	return m.kids(op, below)
}

func (m maker) pred(deep int) api.Term {
	op := int8(m.Intn(6))
	if deep == 0 {
		op = int8(m.Intn(3))
	}
	below := func() api.Term { return m.pred(deep - 1) }
	switch op {
	case api.No, api.Yes:
		return api.Term{Op: op}
	case api.Is:
		return m.pair(op)
	case api.Not:
		return not(below())
	}
	return m.kids(op, below)
}

func (m maker) pair(op int8) api.Term {
	field := m.Intn(api.Fields)
	last := uint64(1)<<widths()[field] - 1
	n := []uint64{0, 1, last, last - 1, last/2 + 1, m.Uint64() & last}[m.Intn(6)]
	return api.Term{Op: op, Field: int8(field), N: n}
}

// P17.1, P17.2: policies made at random have the words of the table, and are
// read as they were.
func TestMadeAtRandom(t *testing.T) {
	m := maker{rand.New(rand.NewSource(17))}
	bytes := 0
	for range 20000 {
		p := m.policy(m.Intn(6))
		want := plainText(p)
		if len(want) > api.MaxText {
			continue
		}
		bytes += len(want)
		wantText(t, p, want)
	}
	if bytes < 2000000 {
		t.Errorf("%d bytes: too few to tell", bytes)
	}
}

// P17.1: no brackets stand but a Star's that the policy could do without.
func TestBracketsNeeded(t *testing.T) {
	m := maker{rand.New(rand.NewSource(18))}
	pairs := 0
	for range 6000 {
		p := m.policy(m.Intn(5))
		text, e := Text(p)
		if e != api.OK {
			t.Fatal(e)
		}
		words := strings.Fields(text)
		var open []int
		for i, word := range words {
			switch word {
			case "(":
				open = append(open, i)
			case ")":
				first := open[len(open)-1]
				open = open[:len(open)-1]
				if i+1 < len(words) && words[i+1] == "*" {
					continue
				}
				pairs++
				less := slices.Concat(words[:first], words[first+1:i], words[i+1:])
				back, err := parse.Policy(strings.Join(less, " "))
				if err == nil && samePolicy(back, p) {
					t.Errorf("%s: the brackets at word %d say nothing", short(text), first)
				}
			}
		}
	}
	if pairs < 5000 {
		t.Errorf("%d pairs of brackets: too few to tell", pairs)
	}
}

// spots are the places of all terms of a policy.
func spots(p *api.Policy) []*api.Term {
	var list []*api.Term
	var walk func(t *api.Term)
	walk = func(t *api.Term) {
		list = append(list, t)
		for i := range t.Kids {
			walk(&t.Kids[i])
		}
	}
	walk(&p.Main)
	for i := range p.Queries {
		walk(&p.Queries[i].Pred)
	}
	return list
}

// isPlain tells whether a term may stand, by the chapter's list.
func isPlain(t api.Term, isPred bool) bool {
	ops := map[bool]string{true: "0 1 2 3 4 5", false: "6 7 8 9 10"}[isPred]
	if !slices.Contains(strings.Fields(ops), strconv.Itoa(int(t.Op))) {
		return false
	}
	counts := t.Op == api.Is || t.Op == api.Set
	switch n := len(t.Kids); t.Op {
	case api.No, api.Yes, api.Is, api.Set:
		if n != 0 {
			return false
		}
	case api.Not, api.Filter, api.Star:
		if n != 1 {
			return false
		}
	default:
		if n < 2 {
			return false
		}
	}
	if counts && (t.Field < 0 || t.Field > 10 || t.N > uint64(1)<<widths()[t.Field]-1) {
		return false
	}
	if !counts && (t.Field != 0 || t.N != 0) {
		return false
	}
	return !slices.ContainsFunc(t.Kids, func(kid api.Term) bool { return !isPlain(kid, isPred || t.Op == api.Filter) })
}

// P17.1, P17.2: policies one of whose terms was changed at random are refused
// just if they are none any more, and else are read as they were.
func TestChangedAtRandom(t *testing.T) {
	m := maker{rand.New(rand.NewSource(19))}
	taken, refused := 0, 0
	for range 40000 {
		p := m.policy(m.Intn(4))
		list := spots(&p)
		x := list[m.Intn(len(list))]
		switch m.Intn(6) {
		case 0:
			x.Op = int8(m.Intn(14) - 1)
		case 1:
			x.Field = int8(m.Intn(14) - 1)
		case 2:
			x.N = uint64(1) << m.Intn(64)
		case 3:
			x.Kids = append(x.Kids, m.pred(1))
		case 4:
			x.Kids = append(x.Kids, m.pol(1))
		case 5:
			x.Kids = x.Kids[:len(x.Kids)/2]
		}
		plain := isPlain(p.Main, false) && !slices.ContainsFunc(p.Queries, func(q api.Query) bool { return !isPlain(q.Pred, true) })
		if !plain {
			refused++
			wantError(t, p, api.ErrPolicy, "a changed policy")
			continue
		}
		taken++
		wantText(t, p, plainText(p))
	}
	if taken < 2000 || refused < 10000 {
		t.Errorf("%d policies taken, %d refused: too few to tell", taken, refused)
	}
}

// P17.2: whatever text is read, it is told, read and told again as the same
// text, unless a number does not fit, or there are too many queries or bytes.
func FuzzThereAndBack(f *testing.F) {
	for _, text := range []string{
		"", "id", "filter port = 1 ; port := 2", "if switch=1 then port:=4 else port:=2 count web = dport=80 & !proto=6 | true",
		"(filter true + drop)** ; src:=00:00:00:00:00:05 # x\n", "id count a=!(true|false)&(to=10.0.0.1&true)", "port:=65536", "vlan:=4096+id",
	} {
		f.Add(text)
	}
	f.Fuzz(func(t *testing.T, text string) {
		p, err := parse.Policy(text)
		if err != nil {
			return
		}
		told, e := Text(p)
		isNone := !isPlain(p.Main, false) || len(p.Queries) > api.MaxQueries ||
			slices.ContainsFunc(p.Queries, func(q api.Query) bool { return !isPlain(q.Pred, true) })
		switch {
		case isNone:
			wantError(t, p, api.ErrPolicy, short(text))
		case e == api.OK:
			wantText(t, p, plainText(p))
		case e != api.ErrLong || told != "" || len(plainText(p)) <= api.MaxText:
			t.Errorf("%s: %s, %v", short(text), short(told), e)
		}
	})
}
