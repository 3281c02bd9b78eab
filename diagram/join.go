package diagram

import "tollbridge/api"

func (d *draft) union(a, b int) int {
	return d.apply(doUnion, a, b, func(a, b int) (int, bool) {
		switch {
		case a == b || b == d.none:
			return a, true
		case a == d.none:
			return b, true
		}
		return 0, false
	}, rowsOfBoth)
}

// minus is what a makes but b does not.
func (d *draft) minus(a, b int) int {
	return d.apply(doMinus, a, b, func(a, b int) (int, bool) {
		switch {
		case a == b:
			return d.none, true
		case a == d.none || b == d.none:
			return a, true
		}
		return 0, false
	}, rowsBeside)
}

// apply goes down two diagrams side by side, to where it is plain what comes of
// both, or to leaves, of whose rows it makes a leaf's.
func (d *draft) apply(what int8, a, b int, plain func(a, b int) (int, bool), rows func(a, b []int) []int) int {
	var down func(a, b int) int
	down = func(a, b int) int {
		if at, ok := plain(a, b); ok {
			return at
		}
		return d.once(pair{which{what: what}, a, b}, func() int {
			x, y := d.parts[a], d.parts[b]
			if x.isLeaf() && y.isLeaf() {
				d.work(len(x.rows) + len(y.rows))
				return d.leaf(rows(x.rows, y.rows))
			}
			t := least(x.test, y.test)
			return d.test(t, down(d.given(a, t), d.given(b, t)), down(d.unless(a, t), d.unless(b, t)))
		})
	}
	return down(a, b)
}

func (d *draft) then(a, b int) int {
	var down func(a, b int) int
	down = func(a, b int) int {
		switch {
		case a == d.none || b == d.none:
			return d.none
		case a == d.one:
			return b
		case b == d.one:
			return a
		}
		return d.once(pair{which{what: doThen}, a, b}, func() int {
			x, y := d.parts[a], d.parts[b]
			switch {
			case !y.isLeaf() && !x.hasSet(y.field) && y.compare(x.test) <= 0:
				// What is asked behind a is as it was ahead of it.
				t := y.test
				return d.test(t, down(d.given(a, t), y.hi), down(d.unless(a, t), y.lo))
			case !x.isLeaf():
				return d.thenBelow(a, b, down)
			case y.isLeaf():
				return d.leaf(d.thenRows(x.rows, y.rows))
			case len(x.rows) == 1:
				set := d.rows[x.rows[0]].to[y.field]
				return down(a, d.given(b, test{y.field, set}))
			}
			half := len(x.rows) / 2
			return d.union(down(d.leaf(x.rows[:half]), b), down(d.leaf(x.rows[half:]), b))
		})
	}
	return down(a, b)
}

// thenBelow goes down by a's first test. A row below may leave a lesser field as it
// is, and b ask for that: then what comes of the row asks for it ahead of a's test.
func (d *draft) thenBelow(a, b int, down func(a, b int) int) int {
	x := d.parts[a]
	holds := func(p part) int {
		if d.parts[p.hi].hasSet(p.field) {
			return down(p.hi, b)
		}
		return down(p.hi, d.given(b, p.test))
	}
	if !d.parts[x.lo].hasSet(x.field) {
		return d.choose(x.test, holds(x), down(x.lo, d.unless(b, x.test)))
	}
	if other := down(x.past, b); d.parts[other].field == x.field && d.isBehind(a, holds) {
		return d.weave(a, other, holds)
	}
	return d.choose(x.test, holds(x), down(x.lo, b))
}

// isBehind tells whether what comes of all tests of a's first field asks for no
// lesser ones.
func (d *draft) isBehind(a int, holds func(p part) int) bool {
	field := d.parts[a].field
	for p := d.parts[a]; p.field == field; p = d.parts[p.lo] {
		if d.parts[holds(p)].field < field {
			return false
		}
	}
	return true
}

// weave lays the tests of a's first field and other's of that field into one row:
// to choose by one of them behind the other would take as often as many steps.
func (d *draft) weave(a, other int, holds func(p part) int) int {
	field := d.parts[a].field
	var down func(a, other int) int
	down = func(a, other int) int {
		x, y := d.parts[a], d.parts[other]
		switch {
		case x.field != field:
			return other
		case y.compare(x.test) < 0:
			return d.test(y.test, y.hi, down(a, y.lo))
		}
		return d.test(x.test, holds(x), down(x.lo, d.unless(other, x.test)))
	}
	return down(a, other)
}

func (d *draft) thenRows(first, next []int) []int {
	d.work(len(first) * len(next))
	var rows []int
	for _, x := range first {
		for _, y := range next {
			rows = append(rows, d.number(d.rows[x].then(d.rows[y])))
		}
	}
	return rows
}

// choose is a diagram that does what a does where the test holds, and else what b
// does; both may ask for what is ahead of the test.
func (d *draft) choose(t test, a, b int) int {
	var down func(a, b int) int
	down = func(a, b int) int {
		a = d.given(a, t)
		if a == b {
			return a
		}
		return d.once(pair{which{doChoose, t}, a, b}, func() int {
			first := least(t, d.parts[a].test, d.parts[b].test)
			switch {
			case first == t:
				return d.test(t, a, d.unless(b, t))
			case first.field == t.field: // where it holds, t does not
				return d.test(first, d.given(b, first), down(a, d.unless(b, first)))
			}
			return d.test(first, down(d.given(a, first), d.given(b, first)), down(d.unless(a, first), d.unless(b, first)))
		})
	}
	return down(a, b)
}

// not is a predicate's diagram with its leaves turned about.
func (d *draft) not(a int) int {
	var down func(a int) int
	down = func(a int) int {
		switch a {
		case d.none:
			return d.one
		case d.one:
			return d.none
		}
		return d.once(pair{which{what: doNot}, a, a}, func() int {
			p := d.parts[a]
			return d.test(p.test, down(p.hi), down(p.lo))
		})
	}
	return down(a)
}

// star adds round by round what a makes of what was new.
func (d *draft) star(a, rounds int) int {
	all, fresh := d.one, d.one
	for range rounds {
		fresh = d.minus(d.then(fresh, a), all)
		if fresh == d.none {
			return all
		}
		all = d.union(all, fresh)
	}
	panic(api.ErrTooBig)
}

func least(first test, others ...test) test {
	for _, t := range others {
		if t.compare(first) < 0 {
			first = t
		}
	}
	return first
}
