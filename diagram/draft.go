package diagram

import (
	"cmp"
	"slices"

	"tollbridge/api"
)

// leafField stands behind all fields, so a leaf is behind every test.
const leafField = api.Fields

// DOC.md bounds the bytes, items and steps that there are in all, and so is what is
// done to put one diagram together: a leaf may come to have more rows than there is
// memory for, and yet every call must end. A step counts 1, and these as many bytes
// as they take, about.
const (
	maxWork   = 1<<31 - 1
	partWork  = 3 << 6
	pairWork  = 1 << 6
	rowWork   = 1 << 6
	placeWork = 1 << 3 // a row's in a leaf
)

// strictWork is less, for where there is more to do it may be only for being strict.
const strictWork = maxWork >> 3

// maxRows are as many as Run can answer the headers of.
const maxRows = maxWork / (8 * api.Fields)

// test asks whether a field is N.
type test struct {
	field int
	n     uint64
}

func (t test) compare(u test) int {
	return cmp.Or(cmp.Compare(t.field, u.field), cmp.Compare(t.n, u.n))
}

// marks tell of each field to which numbers it may be set: each has one of 64 bits.
type marks [api.Fields]uint64

func (m *marks) add(t test) {
	m[t.field] |= 1 << (t.n % 64)
}

func (m *marks) has(t test) bool {
	return m[t.field]>>(t.n%64)&1 == 1
}

// marksOf are those of both; mostly one of the two has the other's.
func marksOf(x, y *marks) *marks {
	all := *y
	for field, bits := range x {
		all[field] |= bits
	}
	switch all {
	case *x:
		return x
	case *y:
		return y
	}
	return &all
}

// branch is what tells a test with what stands below it from the others.
type branch struct {
	test
	hi, lo int
}

// part is a leaf or a test of a draft.
type part struct {
	branch
	past  int     // what comes behind all tests of the field, if none of them holds
	deep  int     // how many tests of the field there are from here on
	jump  int     // one of them that is further on, or what comes behind them
	asks  uint16  // the fields that are asked for from here on, a bit each
	sets  uint16  // the fields that some row below sets
	waits uint16  // the fields for which some row below waits
	marks *marks  // of all that rows below set
	rows  []int32 // a leaf's
}

func (p *part) isLeaf() bool {
	return p.field == leafField
}

// What is done with parts.
const (
	doUnion = iota
	doMinus
	doThen
	doNot
	doWithout
	doSend
	doTell
	doSettle
)

// pair is what was put together: what was done, by which test, if by one, and the
// parts.
type pair struct {
	n     uint64
	a, b  int32
	field int8
	what  int8
}

// draft is where diagrams are put together. Each thing stands there once. In a strict
// draft two diagrams that make the same of every header are one, and so a star sees when
// nothing new has come. (For that, no row below Hi sets the test's field to its N, and no
// test stands where its Lo alone would do.) But what many tests of a field stand over
// comes to have a form for each: where that is too much, or not little, rows stay as they
// are in another draft. (A star takes no fewer rounds there: more rows are new.)
type draft struct {
	isStrict  bool
	parts     []part
	branches  map[branch]int
	leaves    map[string]int // by their rows' texts
	rows      []row
	numbers   map[row]int32 // of the rows
	ahead     map[pair]int
	none, one int   // the leaf without rows, and that of one row without settings
	left      int   // work that there may still be
	held      []int // see hold
	isLast    bool  // whether the answer has no fewer parts than what is made
}

func newDraft(isStrict bool) *draft {
	d := &draft{
		isStrict: isStrict,
		branches: map[branch]int{},
		leaves:   map[string]int{},
		rows:     []row{{}},
		numbers:  map[row]int32{},
		ahead:    map[pair]int{},
		left:     maxWork,
	}
	if isStrict {
		d.left = strictWork
	}
	d.none = d.leaf(nil)
	d.one = d.leaf([]int32{emptyRow})
	return d
}

// work leaves, by a panic that draw turns into its answer, where there is too much.
func (d *draft) work(n int) {
	d.left -= n
	must(d.left >= 0)
}

func must(fits bool) {
	if !fits {
		panic(api.ErrTooBig)
	}
}

// once is what was made of two parts ahead, or else is made now.
func (d *draft) once(what int8, t test, a, b int, join func() int) int {
	p := pair{n: t.n, a: int32(a), b: int32(b), field: int8(t.field), what: what}
	if at, ok := d.ahead[p]; ok {
		return at
	}
	d.work(pairWork)
	at := join()
	d.ahead[p] = at
	return at
}

// leaf is the leaf of these rows, which are in any order.
func (d *draft) leaf(rows []int32) int {
	d.work(len(rows))
	rows = inOrder(slices.Clone(rows))
	must(len(rows) <= maxRows)
	key := numbersText(rows)
	if at, ok := d.leaves[key]; ok {
		return at
	}
	d.work(placeWork * len(rows))
	d.leaves[key] = len(d.parts)
	p := part{branch: branch{test: test{field: leafField}}, past: len(d.parts), marks: &marks{}, rows: rows}
	for _, number := range rows {
		d.sum(&p, number)
	}
	return d.add(p)
}

// test is a test over two parts that it may stand over.
func (d *draft) test(t test, hi, lo int) int {
	hi = d.given(hi, t)
	if hi == d.given(lo, t) {
		return lo
	}
	b := branch{test: t, hi: hi, lo: lo}
	if at, ok := d.branches[b]; ok {
		return at
	}
	x, y := &d.parts[hi], &d.parts[lo]
	p := part{branch: b, past: lo, deep: 1, jump: lo, asks: 1<<t.field | x.asks | y.asks,
		sets: x.sets | y.sets, waits: x.waits | y.waits, marks: marksOf(x.marks, y.marks)}
	if y.field == t.field {
		p.past, p.deep = y.past, y.deep+1
		// Jumps as long as the two ahead of them lead everywhere in few steps.
		if y.deep-d.deepOf(y.jump, t.field) == d.deepOf(y.jump, t.field)-d.deepOf(d.parts[y.jump].jump, t.field) {
			p.jump = d.parts[y.jump].jump
		}
	}
	d.branches[b] = len(d.parts)
	return d.add(p)
}

func (d *draft) deepOf(at, field int) int {
	if p := &d.parts[at]; p.field == field {
		return p.deep
	}
	return 0
}

// seek is what stands behind a field's tests for lesser numbers.
func (d *draft) seek(at int, t test) int {
	for p := &d.parts[at]; p.field == t.field && p.n < t.n; p = &d.parts[at] {
		at = p.lo
		if far := &d.parts[p.jump]; far.field == t.field && far.n <= t.n {
			at = p.jump
		}
	}
	return at
}

func (d *draft) add(p part) int {
	d.work(partWork)
	d.parts = append(d.parts, p)
	if len(d.parts)%api.MaxNodes == 0 {
		d.askHeld()
	}
	return len(d.parts) - 1
}

// last makes the answer.
func (d *draft) last(a, b int, join func(a, b int) int) int {
	d.isLast = true
	return join(a, b)
}

// hold keeps a part by while another one is made, if the answer has no fewer parts than
// it: so the other one need not be made to its end to tell that the answer is too big.
func (d *draft) hold(at int, join func() int) int {
	if !d.isLast {
		return join()
	}
	d.held = append(d.held, at)
	other := join()
	d.held = d.held[:len(d.held)-1]
	return other
}

func (d *draft) askHeld() {
	for _, at := range d.held {
		must(d.size(at, api.MaxNodes) <= api.MaxNodes)
	}
}

// aside makes what the answer may yet have fewer parts than.
func (d *draft) aside(join func() int) int {
	isLast := d.isLast
	d.isLast = false
	at := join()
	d.isLast = isLast
	return at
}

// size is how many parts a diagram has, or one more than so many, if it has more.
func (d *draft) size(at, most int) int {
	seen := map[int]struct{}{}
	var down func(at int)
	down = func(at int) {
		if _, ok := seen[at]; ok || len(seen) > most {
			return
		}
		seen[at] = struct{}{}
		if p := &d.parts[at]; !p.isLeaf() {
			down(p.hi)
			down(p.lo)
		}
	}
	down(at)
	return len(seen)
}

// answer is where a diagram goes from here, if its first tests ask for the field and
// it is the test's number.
func (d *draft) answer(at int, t test) int {
	at = d.seek(at, t)
	switch p := &d.parts[at]; {
	case p.test == t:
		return p.hi
	case p.field == t.field:
		return p.past
	}
	return at
}

// given is what a diagram does where the test holds. Of one that asks for lesser
// fields first that is not told: it is left as it is.
func (d *draft) given(at int, t test) int {
	to := d.answer(at, t)
	switch {
	case d.parts[to].field < t.field:
		return at
	case !d.isStrict:
		return to
	}
	return d.without(to, t)
}

// without is what a diagram that asks for greater fields alone does where the test
// holds: a row that sets the field to N leaves it there as it is.
func (d *draft) without(at int, t test) int {
	return d.eachLeaf(change{what: doWithout, test: t,
		needs: func(p *part) bool { return p.marks.has(t) },
		rows: func(rows []int32) []int32 {
			less := make([]int32, len(rows))
			for i, number := range rows {
				less[i] = d.rowGiven(number, t)
			}
			return less
		},
	}, at)
}

// unless is what a diagram does where the test does not hold, if it is the first.
func (d *draft) unless(at int, t test) int {
	if d.parts[at].test == t {
		return d.parts[at].lo
	}
	return at
}
