package diagram

import "tollbridge/api"

// joint is how two diagrams are put together that are gone down side by side.
type joint struct {
	what  int8
	plain func(a, b int) (int, bool) // what comes of both, if that is plain
	rows  func(a, b []int32) []int32 // what comes of two leaves
}

func (d *draft) union(a, b int) int {
	return d.apply(joint{doUnion, func(a, b int) (int, bool) {
		switch {
		case a == b || b == d.none:
			return a, true
		case a == d.none:
			return b, true
		}
		return 0, false
	}, rowsOfBoth}, a, b)
}

// minus is what a makes but b does not.
func (d *draft) minus(a, b int) int {
	return d.apply(joint{doMinus, func(a, b int) (int, bool) {
		switch {
		case a == b:
			return d.none, true
		case a == d.none || b == d.none:
			return a, true
		}
		return 0, false
	}, rowsBeside}, a, b)
}

// apply goes down to where it is plain what comes of both, or to leaves.
func (d *draft) apply(j joint, a, b int) int {
	var down func(a, b int) int
	down = func(a, b int) int {
		if at, ok := j.plain(a, b); ok {
			return at
		}
		return d.once(j.what, test{}, a, b, func() int {
			t := least(d.parts[a].test, d.parts[b].test)
			if t.field == leafField {
				x, y := d.parts[a].rows, d.parts[b].rows
				d.work(len(x) + len(y))
				return d.leaf(j.rows(x, y))
			}
			lo := down(d.unless(a, t), d.unless(b, t))
			hi := d.hold(lo, func() int { return down(d.given(a, t), d.given(b, t)) })
			return d.test(t, hi, lo)
		})
	}
	return down(a, b)
}

// change is how other rows come to stand in all leaves of a diagram.
type change struct {
	what int8
	test
	other int
	needs func(p *part) bool // whether a part is changed; if not told, each is
	rows  func(rows []int32) []int32
}

func (d *draft) eachLeaf(c change, at int) int {
	var down func(at int) int
	down = func(at int) int {
		if p := &d.parts[at]; c.needs != nil && !c.needs(p) {
			return at
		}
		return d.once(c.what, c.test, at, c.other, func() int {
			p := d.parts[at]
			if p.isLeaf() {
				return d.leaf(c.rows(p.rows))
			}
			return d.test(p.test, down(p.hi), down(p.lo))
		})
	}
	return down(at)
}

// not is a predicate's diagram with its leaves turned about.
func (d *draft) not(a int) int {
	return d.eachLeaf(change{what: doNot, rows: func(rows []int32) []int32 {
		if len(rows) > 0 {
			return nil
		}
		return []int32{emptyRow}
	}}, a)
}

// star adds round by round what a makes of what was new.
func (d *draft) star(a, rounds int) int {
	all, fresh := d.one, d.one
	for range rounds {
		fresh = d.minus(d.then(fresh, a), all)
		if fresh == d.none {
			return all
		}
		all = d.union(all, fresh)
	}
	panic(api.ErrTooBig)
}

func least(first test, others ...test) test {
	for _, t := range others {
		if t.compare(first) < 0 {
			first = t
		}
	}
	return first
}
