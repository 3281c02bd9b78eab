package parse

import (
	"strconv"
	"strings"
	"testing"

	"tollbridge/api"
)

// terms are how many there are in a term, with itself.
func terms(t api.Term) int {
	n := 1
	for _, kid := range t.Kids {
		n += terms(kid)
	}
	return n
}

func depth(t api.Term) int {
	deepest := 0
	for _, kid := range t.Kids {
		deepest = max(deepest, depth(kid))
	}
	return 1 + deepest
}

// wantSize asks for a policy of that many terms, the deepest of that depth, or,
// where one of the two is above its bound, for ErrTooBig.
func wantSize(t *testing.T, text string, many, deep int) {
	t.Helper()
	if many > api.MaxTerms || deep > api.MaxDepth {
		wantFault(t, text, api.ErrTooBig, 0, "")
		wantFault(t, text+" )", api.ErrSyntax, len(text)+1, ")")
		wantFault(t, text+" ) ?", api.ErrWord, len(text)+3, "?")
		return
	}
	p, err := Policy(text)
	if err != nil {
		t.Errorf("Policy(%s): %s, want %d terms", short(text), short(err.Error()), many)
		return
	}
	gotMany, gotDeep := terms(p.Main), depth(p.Main)
	for _, q := range p.Queries {
		gotMany += terms(q.Pred)
		gotDeep = max(gotDeep, depth(q.Pred))
	}
	if gotMany != many || gotDeep != deep {
		t.Errorf("Policy(%s): %d terms, %d deep, want %d, %d", short(text), gotMany, gotDeep, many, deep)
	}
}

func repeated(n int, part, between string) string {
	return strings.TrimSuffix(strings.Repeat(part+between, n), between)
}

// P16.1: at most MaxTerms terms, in all kinds of them.
func TestManyTerms(t *testing.T) {
	for n := 4093; n <= 4098; n++ {
		wantSize(t, repeated(n, "port:=1", ";"), n+1, 2)
		wantSize(t, repeated(n, "port:=1", "+"), n+1, 2)
		wantSize(t, "filter "+repeated(n, "to=1", "|"), n+2, 3)
		wantSize(t, "filter "+repeated(n, "to=1", "&"), n+2, 3)
		wantSize(t, "filter !("+repeated(n, "true", "&")+")", n+3, 4)
		wantSize(t, "("+repeated(n, "vlan:=1", "+")+")*", n+2, 3)
	}
	for n := 2045; n <= 2050; n++ {
		wantSize(t, repeated(n, "id", ";"), 2*n+1, 3)
		wantSize(t, repeated(n, "drop", "+"), 2*n+1, 3)
		wantSize(t, repeated(n, "(kind:=0)*", ";"), 2*n+1, 3)
		wantSize(t, "filter "+repeated(n, "!false", "&"), 2*n+2, 4)
	}
	for n := 1363; n <= 1367; n++ {
		wantSize(t, repeated(n, "src:=1;dst:=1", "+"), 3*n+1, 3)
	}
}

// P16.1: the predicate behind if is there twice, and counts twice.
func TestTermsOfIf(t *testing.T) {
	for n := 2040; n <= 2046; n++ {
		wantSize(t, "if "+repeated(n, "true", "&")+" then port:=1 else port:=2", 2*(n+1)+8, 6)
		wantSize(t, "if "+repeated(n, "true", "&")+" then port:=1 else id", 2*(n+1)+9, 6)
	}
	for n := 338; n <= 343; n++ {
		for more := range 12 {
			text := repeated(n, "(if true then id else id)", ";") + strings.Repeat(";port:=1", more)
			wantSize(t, text, 12*n+1+more, 6)
		}
	}
}

// P16.1: Main's terms and those of all queries count together.
func TestTermsTogether(t *testing.T) {
	for n := 4092; n <= 4097; n++ {
		wantSize(t, "id"+strings.Repeat(" count a=true", n), n+2, 2)
	}
	for a := range 8 {
		for b := range 8 {
			text := repeated(2043+a, "port:=1", "+") + " count a=" + repeated(1000, "true", "|") + " count b=" + repeated(1044+b, "to=1", "&")
			wantSize(t, text, 2043+a+1+1001+1044+b+1, 2)
		}
	}
}

// P16.1: at most MaxDepth deep, by each way down.
func TestDeepTerms(t *testing.T) {
	for n := 120; n <= 135; n++ {
		wantSize(t, "id"+strings.Repeat("*", n), n+2, n+2)
		wantSize(t, "port:=1"+strings.Repeat("*", n), n+1, n+1)
		wantSize(t, strings.Repeat("(", n)+"id"+strings.Repeat("*)", n), n+2, n+2)
		wantSize(t, "filter "+strings.Repeat("!", n)+"true", n+2, n+2)
		wantSize(t, "filter "+strings.Repeat("!(", n)+"to=1"+strings.Repeat(")", n), n+2, n+2)
		wantSize(t, strings.Repeat("id;(", n)+"port:=1;id"+strings.Repeat(")", n), 3*n+4, n+3)
		wantSize(t, strings.Repeat("(", n)+"vlan:=1"+strings.Repeat("+vlan:=1)", n), 2*n+1, n+1)
		wantSize(t, "filter "+strings.Repeat("true&(", n)+"true|true"+strings.Repeat(")", n), 2*n+4, n+3)
		wantSize(t, "filter "+strings.Repeat("(", n)+"true"+strings.Repeat("|true)", n), 2*n+2, n+2)
		wantSize(t, "if "+strings.Repeat("!", n)+"true then port:=1 else id"+strings.Repeat("*", n), 2*(n+1)+n+9, n+5)
		wantSize(t, "if true then port:=1"+strings.Repeat("*", n)+" else id"+strings.Repeat("*", n), 2*n+11, n+4)
		wantSize(t, "id count a=true count b="+strings.Repeat("!", n)+"true count c=false", 2+1+n+1+1, n+1)
		wantSize(t, "id"+strings.Repeat("*", n)+" count a="+strings.Repeat("!", n-8)+"true", n+2+n-7, n+2)
	}
	for n := 55; n <= 70; n++ {
		wantSize(t, strings.Repeat("if true then ", n)+"port:=1"+strings.Repeat(" else port:=1", n), 9*n+1, 2*n+3)
		wantSize(t, strings.Repeat("if true then port:=1 else ", n)+"port:=1", 9*n+1, 2*n+3)
		wantSize(t, "("+strings.Repeat("if true then port:=1 else ", n)+"port:=1)*", 9*n+2, 2*n+4)
	}
}

// P16.1: brackets are nothing, as many of them as a text has room for.
func TestManyBrackets(t *testing.T) {
	for _, n := range []int{1, 128, 129, 5000, 32760} {
		open, shut := strings.Repeat("(", n), strings.Repeat(")", n)
		wantMain(t, open+"id"+shut, filter(yes()))
		wantMain(t, open+"id"+shut+"*", term(api.Star, filter(yes())))
		wantFault(t, open, api.ErrSyntax, n, "")
		wantFault(t, open+"id"+shut+")", api.ErrSyntax, 2*n+2, ")")
		wantFault(t, open+"id"+shut[1:], api.ErrSyntax, 2*n+1, "")
	}
	for _, n := range []int{1, 128, 129, 5000, 32700} {
		open, shut := strings.Repeat("(", n), strings.Repeat(")", n)
		wantPred(t, open+"true"+shut, yes())
		wantPred(t, "!"+open+"to=1"+shut, term(api.Not, is(api.To, 1)))
		wantFault(t, "filter "+open, api.ErrSyntax, n+7, "")
		wantFault(t, "filter "+open+"true"+shut+")", api.ErrSyntax, 2*n+11, ")")
	}
}

// R1: texts as long as they may be, with as many parts in one another as they
// have room for.
func TestLongTexts(t *testing.T) {
	fill := func(first, part string) string {
		return first + strings.Repeat(part, (api.MaxText-len(first))/len(part))
	}
	for _, text := range []string{
		fill("id", "*"), fill("id", ";id"), fill("id", "+drop"), fill("port:=1", ";port:=1"), fill("id", " count a=true"),
		fill("filter true", "&true"), fill("filter true", "|!true"),
		"filter " + strings.Repeat("!", api.MaxText-11) + "true",
		"if " + strings.Repeat("!", api.MaxText-30) + "true then id else id",
		strings.Repeat("if true then ", 2500) + "id" + strings.Repeat(" else id", 2500),
	} {
		wantFault(t, text, api.ErrTooBig, 0, "")
	}
	for _, part := range []string{"(", "id;(", "id+(", "if true then ", "if true then(", "if true then id else ", "id;"} {
		text := fill("", part)
		wantFault(t, text, api.ErrSyntax, len(text), "")
	}
	for _, part := range []string{"!", "(", "true&(", "true|!", "!("} {
		text := fill("filter ", part)
		wantFault(t, text, api.ErrSyntax, len(text), "")
		text = fill("if ", part)
		wantFault(t, text, api.ErrSyntax, len(text), "")
	}
	text := strings.Repeat("if true then ", 2500) + "id" + strings.Repeat(" else id", 2499)
	wantFault(t, text, api.ErrSyntax, len(text), "")
	wantSize(t, "id"+strings.Repeat(" count a=true", 4094)+strings.Repeat(" ", 100)+"# "+strconv.Itoa(api.MaxTerms), api.MaxTerms, 2)
}
