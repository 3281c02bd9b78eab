package parse

import "tollbridge/api"

// reader goes over a text's words, each of the grammar's rules a method. A word
// that can't stand where it stands ends the reading by a panic, which Policy
// turns into a fault at that word; the end is never stepped over.
type reader struct {
	words  []api.Word
	at     int
	fields map[string]int8
}

func fieldNames() map[string]int8 {
	return map[string]int8{
		"src":    api.Src,
		"dst":    api.Dst,
		"kind":   api.Kind,
		"vlan":   api.Vlan,
		"from":   api.From,
		"to":     api.To,
		"proto":  api.Proto,
		"sport":  api.SPort,
		"dport":  api.DPort,
		"port":   api.Port,
		"switch": api.Switch,
	}
}

func (r *reader) word() api.Word {
	return r.words[r.at]
}

// takes steps over a word in quotes, if it stands here. Its bytes tell it: no
// number and no end has those of a name or a sign.
func (r *reader) takes(quoted string) bool {
	if r.word().Text != quoted {
		return false
	}
	r.at++
	return true
}

func must(holds bool) {
	if !holds {
		panic(api.ErrSyntax)
	}
}

func (r *reader) expect(quoted string) {
	must(r.takes(quoted))
}

func (r *reader) file() api.Policy {
	policy := api.Policy{Main: r.pol()}
	for r.takes("count") {
		name := r.queryName()
		r.expect("=")
		policy.Queries = append(policy.Queries, api.Query{Name: name, Pred: r.pred()})
	}
	must(r.word().Kind == api.WordEnd)
	return policy
}

func (r *reader) pol() api.Term {
	return r.joined(api.Union, "+", func() api.Term {
		return r.joined(api.Then, ";", r.star)
	})
}

func (r *reader) pred() api.Term {
	return r.joined(api.Or, "|", func() api.Term {
		return r.joined(api.And, "&", r.not)
	})
}

// joined reads a part, and goes on as long as the sign stands behind one. A part
// alone is itself.
func (r *reader) joined(op int8, sign string, part func() api.Term) api.Term {
	first := part()
	if r.word().Text != sign {
		return first
	}
	kids := []api.Term{first}
	for r.takes(sign) {
		kids = append(kids, part())
	}
	return api.Term{Op: op, Kids: kids}
}

func (r *reader) star() api.Term {
	t := r.atom()
	for r.takes("*") {
		t = over(api.Star, t)
	}
	return t
}

func (r *reader) atom() api.Term {
	switch {
	case r.takes("filter"):
		return over(api.Filter, r.pred())
	case r.takes("id"):
		return over(api.Filter, api.Term{Op: api.Yes})
	case r.takes("drop"):
		return over(api.Filter, api.Term{Op: api.No})
	case r.takes("if"):
		return r.choice()
	case r.takes("("):
		t := r.pol()
		r.expect(")")
		return t
	}
	return r.fieldAndNumber(api.Set, ":=")
}

// choice reads the predicate behind "if" twice, because the policy has it twice,
// and no two lists of an answer may be the same memory.
func (r *reader) choice() api.Term {
	from := r.at
	holds := r.pred()
	r.at = from
	again := r.pred()
	r.expect("then")
	yes := r.pol()
	r.expect("else")
	no := r.pol()
	return over(api.Union,
		over(api.Then, over(api.Filter, holds), yes),
		over(api.Then, over(api.Filter, over(api.Not, again)), no))
}

func (r *reader) not() api.Term {
	switch {
	case r.takes("!"):
		return over(api.Not, r.not())
	case r.takes("true"):
		return api.Term{Op: api.Yes}
	case r.takes("false"):
		return api.Term{Op: api.No}
	case r.takes("("):
		t := r.pred()
		r.expect(")")
		return t
	}
	return r.fieldAndNumber(api.Is, "=")
}

func (r *reader) fieldAndNumber(op int8, sign string) api.Term {
	field, ok := r.fields[r.word().Text]
	must(ok)
	r.at++
	r.expect(sign)
	number := r.word()
	must(number.Kind == api.WordNumber)
	r.at++
	return api.Term{Op: op, Field: field, N: number.N}
}

func (r *reader) queryName() string {
	name := r.word()
	must(name.Kind == api.WordName && !r.isQuoted(name.Text))
	r.at++
	return name.Text
}

// isQuoted holds of the names that the grammar has in quotes.
func (r *reader) isQuoted(name string) bool {
	switch name {
	case "count", "filter", "id", "drop", "if", "then", "else", "true", "false":
		return true
	}
	_, isField := r.fields[name]
	return isField
}

func over(op int8, kids ...api.Term) api.Term {
	return api.Term{Op: op, Kids: kids}
}
