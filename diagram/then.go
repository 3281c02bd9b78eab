package diagram

import (
	"maps"
	"math"
	"math/bits"
	"slices"
)

// placeField stands behind all fields: a row that waits sets it to where it waits.
const placeField = leafField

// noNumber fits no field, so no test of it holds.
const noNumber = math.MaxUint64

// isApart tells whether no row below a sets what b asks for or sets.
func (d *draft) isApart(a, b int) bool {
	return d.parts[a].sets&(d.parts[b].asks|d.parts[b].sets) == 0
}

// then sends a's rows into b. Where a row sets what b asks for, it goes on at once;
// where it does not, it waits till that is asked for ahead of a's greater tests. So
// everything is asked for in its order, and once.
func (d *draft) then(a, b int) int {
	if at, ok := d.plainThen(a, b); ok {
		return at
	}
	if d.isApart(a, b) {
		return d.apply(joint{doThen, d.plainThen, d.rowsThen}, a, b)
	}
	return d.settle(d.sendInto(a, b))
}

func (d *draft) plainThen(a, b int) (int, bool) {
	switch {
	case a == d.none || b == d.none:
		return d.none, true
	case a == d.one:
		return b, true
	case b == d.one:
		return a, true
	}
	return 0, false
}

// sendInto sends all rows of a into b.
func (d *draft) sendInto(a, b int) int {
	return d.eachLeaf(change{what: doSend, other: b, rows: func(rows []int32) []int32 { return d.goInto(rows, b) }}, a)
}

// tell tells those rows of a diagram that wait for the test's field that it holds.
func (d *draft) tell(at int, t test) int {
	return d.eachLeaf(change{what: doTell, test: t,
		needs: func(p *part) bool { return p.waits>>t.field&1 == 1 },
		rows:  func(rows []int32) []int32 { return d.told(rows, t) },
	}, at)
}

// goInto brings rows as far into a diagram as what they set tells.
func (d *draft) goInto(rows []int32, at int) []int32 {
	p := d.parts[at]
	if p.isLeaf() {
		return d.rowsThen(rows, p.rows)
	}
	var wait []int32
	next := map[int][]int32{}
	for _, number := range rows {
		if n, ok := d.setTo(number, p.field); ok {
			to := d.answer(at, test{p.field, n})
			next[to] = append(next[to], number)
		} else {
			wait = append(wait, d.with(number, placeField, uint64(at)))
		}
	}
	return d.goOn(wait, next)
}

// told are rows, of which those that waited for the field have gone on.
func (d *draft) told(rows []int32, t test) []int32 {
	var all []int32
	next := map[int][]int32{}
	for _, number := range rows {
		if at, ok := d.setTo(number, placeField); ok && d.parts[at].field == t.field {
			to := d.answer(int(at), t)
			next[to] = append(next[to], d.rows[number].ahead)
		} else {
			all = append(all, number)
		}
	}
	return d.goOn(all, next)
}

func (d *draft) goOn(all []int32, next map[int][]int32) []int32 {
	for _, at := range slices.Sorted(maps.Keys(next)) {
		all = append(all, d.goInto(next[at], at)...)
	}
	return all
}

// settle asks, field by field, for what rows wait for, till none does.
func (d *draft) settle(at int) int {
	var down func(at int) int
	down = func(at int) int {
		p := d.parts[at]
		if p.waits == 0 {
			return at
		}
		return d.once(doSettle, test{}, at, at, func() int {
			if field := bits.TrailingZeros16(p.waits); field <= p.field {
				return d.settleField(at, field, down)
			}
			lo := down(p.lo)
			return d.testPast(p.test, lo, func() int { return down(p.hi) })
		})
	}
	return down(at)
}

// testPast is a test over what is made last. A row that comes of b may set the field to
// N: that makes no difference below Hi, and parts that differ by it alone become one.
func (d *draft) testPast(t test, lo int, hi func() int) int {
	return d.test(t, d.hold(lo, func() int { return d.aside(hi) }), lo)
}

// settleField asks for a field by each number that matters, and for what is left. Of
// numbers that lead from all places where rows wait to the same, one is told for all.
func (d *draft) settleField(at, field int, down func(at int) int) int {
	past := at
	if d.parts[at].field == field {
		past = d.parts[at].past
	}
	places := d.placesBelow(past, field)
	alike := map[string]test{}
	all := down(d.tell(past, test{field, noNumber}))
	for _, n := range d.numbersAsked(field, append(places, at)) {
		t := test{field, n}
		as := t
		if d.parts[d.seek(at, t)].test != t {
			as = first(alike, d.answersText(places, t), t)
		}
		all = d.testPast(t, all, func() int { return down(d.tell(d.given(at, t), as)) })
	}
	return all
}

// first is what came first of those that have this key.
func first(alike map[string]test, key string, t test) test {
	if _, ok := alike[key]; !ok {
		alike[key] = t
	}
	return alike[key]
}

// answersText is a text that tells where a test leads from each of these places.
func (d *draft) answersText(places []int, t test) string {
	d.work(len(places))
	answers := make([]int32, len(places))
	for i, at := range places {
		answers[i] = int32(d.answer(at, t))
	}
	return numbersText(answers)
}

// placesBelow are the places where rows below a part wait for a field.
func (d *draft) placesBelow(at, field int) []int {
	seen, places := map[int]struct{}{}, map[int]struct{}{}
	var down func(at int)
	down = func(at int) {
		p := &d.parts[at]
		if _, ok := seen[at]; ok || p.waits>>field&1 == 0 {
			return
		}
		seen[at] = struct{}{}
		d.work(1 + len(p.rows))
		for _, number := range p.rows {
			if place, ok := d.setTo(number, placeField); ok && d.parts[place].field == field {
				places[int(place)] = struct{}{}
			}
		}
		if !p.isLeaf() {
			down(p.hi)
			down(p.lo)
		}
	}
	down(at)
	return slices.Sorted(maps.Keys(places))
}

// numbersAsked are the numbers by which a field is asked for from these parts on, with
// no other field between; they fall.
func (d *draft) numbersAsked(field int, parts []int) []uint64 {
	seen, numbers := map[int]struct{}{}, map[uint64]struct{}{}
	for _, at := range parts {
		for p := &d.parts[at]; p.field == field; p = &d.parts[at] {
			if _, ok := seen[at]; ok {
				break
			}
			d.work(1)
			seen[at] = struct{}{}
			numbers[p.n] = struct{}{}
			at = p.lo
		}
	}
	fall := slices.Sorted(maps.Keys(numbers))
	slices.Reverse(fall)
	return fall
}
