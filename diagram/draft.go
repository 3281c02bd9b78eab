package diagram

import (
	"cmp"
	"slices"

	"tollbridge/api"
)

// leafField stands behind all fields, so a leaf is behind every test.
const leafField = api.Fields

// What is done to put one diagram together is bounded: a leaf may come to have more
// rows than there is memory for, and yet every call must end.
const (
	maxWork  = 1 << 26
	partWork = 1 << 4 // for a part, and for what is put together
	rowWork  = 1 << 7 // for a row, if it is new; else 1
)

// test asks whether a field is N.
type test struct {
	field int
	n     uint64
}

func (t test) compare(u test) int {
	return cmp.Or(cmp.Compare(t.field, u.field), cmp.Compare(t.n, u.n))
}

// branch is what tells a test with what stands below it from the others.
type branch struct {
	test
	hi, lo int
}

// part is a leaf or a test of a draft.
type part struct {
	branch
	past int    // what comes behind all tests of the field, if none of them holds
	sets uint16 // the fields that some row below sets, a bit each
	rows []int  // a leaf's
}

func (p *part) isLeaf() bool {
	return p.field == leafField
}

func (p *part) hasSet(field int) bool {
	return p.sets>>field&1 == 1
}

// which is what was done with two parts.
type which struct {
	what int8
	test test
}

// What is done with parts.
const (
	doUnion = iota
	doMinus
	doThen
	doNot
	doWithout
	doChoose
)

// pair is what was put together.
type pair struct {
	which which
	a, b  int
}

// draft is where diagrams are put together. Each thing stands there once, and is as
// small as it can be: two diagrams of a draft that make the same of every header are
// one, and so a star sees when nothing new has come. (For that, no row below Hi sets
// the test's field to its N, and no test stands where its Lo alone would do.)
type draft struct {
	parts     []part
	branches  map[branch]int
	leaves    map[string]int // by their rows' texts
	rows      []row
	numbers   map[row]int // of the rows
	ahead     map[pair]int
	none, one int // the leaf without rows, and that of one row without settings
	left      int // work that there may still be
}

func newDraft() *draft {
	d := &draft{
		branches: map[branch]int{},
		leaves:   map[string]int{},
		numbers:  map[row]int{},
		ahead:    map[pair]int{},
		left:     maxWork,
	}
	d.none = d.leaf(nil)
	d.one = d.leaf([]int{d.number(row{})})
	return d
}

// work leaves, by a panic that draw turns into its answer, where there is too much.
func (d *draft) work(n int) {
	d.left -= n
	must(d.left >= 0)
}

func must(fits bool) {
	if !fits {
		panic(api.ErrTooBig)
	}
}

// once is what was made of a pair ahead, or else is made now.
func (d *draft) once(p pair, join func() int) int {
	if at, ok := d.ahead[p]; ok {
		return at
	}
	d.work(partWork)
	at := join()
	d.ahead[p] = at
	return at
}

func (d *draft) leaf(rows []int) int {
	d.work(len(rows))
	rows = slices.Clone(rows)
	slices.Sort(rows)
	rows = slices.Compact(rows)
	key := numbersText(rows)
	if at, ok := d.leaves[key]; ok {
		return at
	}
	d.leaves[key] = len(d.parts)
	return d.add(part{branch: branch{test: test{field: leafField}}, past: len(d.parts), sets: d.setBy(rows), rows: rows})
}

// test is a test over two parts that it may stand over.
func (d *draft) test(t test, hi, lo int) int {
	hi = d.given(hi, t)
	if hi == d.given(lo, t) {
		return lo
	}
	b := branch{test: t, hi: hi, lo: lo}
	if at, ok := d.branches[b]; ok {
		return at
	}
	p := part{branch: b, past: lo, sets: d.parts[hi].sets | d.parts[lo].sets}
	if d.parts[lo].field == t.field {
		p.past = d.parts[lo].past
	}
	d.branches[b] = len(d.parts)
	return d.add(p)
}

func (d *draft) add(p part) int {
	d.work(partWork)
	d.parts = append(d.parts, p)
	return len(d.parts) - 1
}

// given is what a diagram does where the test holds. Of one that asks for lesser
// fields first that is not told: it is left as it is.
func (d *draft) given(at int, t test) int {
	p := &d.parts[at]
	for p.field == t.field && p.n < t.n {
		at = p.lo
		p = &d.parts[at]
	}
	switch {
	case p.field < t.field:
		return at
	case p.test == t:
		return p.hi
	case p.field == t.field:
		at = p.past
	}
	return d.without(at, t)
}

// without is what a diagram that asks for greater fields alone does where the test
// holds: a row that sets the field to N leaves it there as it is.
func (d *draft) without(at int, t test) int {
	var down func(at int) int
	down = func(at int) int {
		p := d.parts[at]
		if !p.hasSet(t.field) {
			return at
		}
		return d.once(pair{which{doWithout, t}, at, at}, func() int {
			if !p.isLeaf() {
				return d.test(p.test, down(p.hi), down(p.lo))
			}
			rows := make([]int, len(p.rows))
			for i, number := range p.rows {
				rows[i] = d.number(d.rows[number].without(t))
			}
			return d.leaf(rows)
		})
	}
	return down(at)
}

// unless is what a diagram does where the test does not hold, if it is the first.
func (d *draft) unless(at int, t test) int {
	if d.parts[at].test == t {
		return d.parts[at].lo
	}
	return at
}
