package show

import (
	"tollbridge/api"
	"tollbridge/header"
)

const longestName = 32

// isPolicy holds of what can be written. It ends at the first term that is one
// too many or too deep, because lists of kids may be shared, or lie in
// themselves, so that they go on without an end.
func isPolicy(p api.Policy) bool {
	if len(p.Queries) > api.MaxQueries {
		return false
	}
	left := api.MaxTerms
	var stands func(t api.Term, isPred bool, depth int) bool
	stands = func(t api.Term, isPred bool, depth int) bool {
		left--
		if left < 0 || depth > api.MaxDepth || !isOfKind(t, isPred) || !isWhole(t) {
			return false
		}
		for _, kid := range t.Kids {
			if !stands(kid, hasPredicates(t), depth+1) {
				return false
			}
		}
		return true
	}
	if !stands(p.Main, false, 1) {
		return false
	}
	for _, query := range p.Queries {
		if !isName(query.Name) || !stands(query.Pred, true, 1) {
			return false
		}
	}
	return true
}

// isOfKind leans on the order of Ops: predicates stand up to Or, policies from
// Filter on.
func isOfKind(t api.Term, isPred bool) bool {
	if isPred {
		return api.No <= t.Op && t.Op <= api.Or
	}
	return api.Filter <= t.Op && t.Op <= api.Star
}

// hasPredicates tells whether a term's kids must be predicates: a predicate's,
// and those of Filter, which is the one policy over one.
func hasPredicates(t api.Term) bool {
	return t.Op <= api.Filter
}

// isWhole asks a term, but not its kids, whose Op is one. A Field or N that does
// not count must be 0, because no text says it, and it would not come back.
func isWhole(t api.Term) bool {
	own := shapes[t.Op]
	if len(t.Kids) < own.least || len(t.Kids) > own.most {
		return false
	}
	if t.Op == api.Is || t.Op == api.Set {
		return fits(t.Field, t.N)
	}
	return t.Field == 0 && t.N == 0
}

func fits(field int8, n uint64) bool {
	width := header.Width(field)
	return width > 0 && n>>width == 0
}

func isName(name string) bool {
	if name == "" || len(name) > longestName || isDigit(name[0]) {
		return false
	}
	for i := range len(name) {
		if !isNameByte(name[i]) {
			return false
		}
	}
	return !isQuoted(name)
}

// isQuoted holds of the names that the grammar of policies has in quotes.
func isQuoted(name string) bool {
	switch name {
	case "id", "drop", "filter", "true", "false", "count", "if", "then", "else":
		return true
	}
	for _, field := range fieldNames {
		if name == field {
			return true
		}
	}
	return false
}

func isDigit(c byte) bool {
	return '0' <= c && c <= '9'
}

func isNameByte(c byte) bool {
	return isDigit(c) || 'a' <= c && c <= 'z' || 'A' <= c && c <= 'Z' || c == '_'
}
