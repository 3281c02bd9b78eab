package diagram

import (
	"maps"
	"slices"

	"tollbridge/api"
)

// row is a leaf's row: a row without its last setting, and that setting (of the
// greatest field). So rows that begin alike share that, for there may be millions.
type row struct {
	n     uint64
	ahead int32  // the number of the row without this setting
	sets  uint16 // all fields that it sets, a bit each
	field int8
}

// emptyRow is the number of the row without settings.
const emptyRow = 0

// with is a row that sets this field behind all others.
func (d *draft) with(number int32, field int8, n uint64) int32 {
	r := row{n: n, ahead: number, sets: d.rows[number].sets | 1<<field, field: field}
	at, ok := d.numbers[r]
	if !ok {
		d.work(rowWork)
		at = int32(len(d.rows))
		d.numbers[r] = at
		d.rows = append(d.rows, r)
	}
	return at
}

// setTo tells to what a row sets a field, and whether it does.
func (d *draft) setTo(number int32, field int) (uint64, bool) {
	r := &d.rows[number]
	for r.sets>>field > 1 {
		r = &d.rows[r.ahead]
	}
	return r.n, r.sets>>field == 1
}

// rowWithout is a row without what it sets of these fields, a bit each.
func (d *draft) rowWithout(number int32, fields uint16) int32 {
	r := d.rows[number]
	switch {
	case r.sets&fields == 0:
		return number
	case fields>>r.field&1 == 1:
		return d.rowWithout(r.ahead, fields)
	}
	return d.with(d.rowWithout(r.ahead, fields), r.field, r.n)
}

// rowGiven is a row where the test holds.
func (d *draft) rowGiven(number int32, t test) int32 {
	if n, ok := d.setTo(number, t.field); ok && n == t.n {
		return d.rowWithout(number, 1<<t.field)
	}
	return number
}

// rowThen is a row that does what both do, one behind the other.
func (d *draft) rowThen(first, next int32) int32 {
	x, y := d.rows[first], d.rows[next]
	switch {
	case x.sets == 0:
		return next
	case y.sets == 0:
		return first
	case x.field > y.field:
		return d.with(d.rowThen(x.ahead, next), x.field, x.n)
	case x.field == y.field:
		first = x.ahead
	}
	return d.with(d.rowThen(first, y.ahead), y.field, y.n)
}

// sum adds what a row sets, and for what it waits, to what a part tells of its rows.
func (d *draft) sum(p *part, number int32) {
	p.sets |= d.rows[number].sets
	for r := &d.rows[number]; r.sets != 0; r = &d.rows[r.ahead] {
		if r.field == placeField {
			p.waits |= 1 << d.parts[r.n].field
		} else {
			p.marks.add(test{int(r.field), r.n})
		}
	}
}

// rowsOf are the numbers of a store's leaf's rows.
func (d *draft) rowsOf(leaf [][]api.Action) []int32 {
	var rows []int32
	for _, settings := range leaf {
		number := int32(emptyRow)
		for _, x := range settings {
			number = d.with(number, x.Field, x.N)
		}
		rows = append(rows, number)
	}
	return rows
}

// settings are the rows as a store takes them.
func (d *draft) settings(rows []int32) [][]api.Action {
	var leaf [][]api.Action
	for _, number := range rows {
		var settings []api.Action
		for r := d.rows[number]; r.sets != 0; r = d.rows[r.ahead] {
			settings = append(settings, api.Action{Do: api.ActSet, Field: r.field, N: r.n})
		}
		leaf = append(leaf, settings)
	}
	return leaf
}

func rowsOfBoth(rows, others []int32) []int32 {
	return append(slices.Clone(rows), others...)
}

// rowsBeside are the rows, without those that others are too; both rise.
func rowsBeside(rows, others []int32) []int32 {
	return slices.DeleteFunc(slices.Clone(rows), func(number int32) bool {
		_, found := slices.BinarySearch(others, number)
		return found
	})
}

// rowsThen are the rows that do what one of first does, and then one of next. To
// those of next that set the same fields it is one what a row ahead of them sets
// these to: so there are hardly more steps than rows that come of them.
func (d *draft) rowsThen(first, next []int32) []int32 {
	alike := map[uint16][]int32{}
	for _, number := range next {
		sets := d.rows[number].sets
		alike[sets] = append(alike[sets], number)
	}
	var rows []int32
	for _, sets := range slices.Sorted(maps.Keys(alike)) {
		rows = d.addThen(rows, d.rowsWithout(first, sets), alike[sets])
	}
	return rows
}

func (d *draft) rowsWithout(rows []int32, fields uint16) []int32 {
	d.work(len(rows))
	less := make([]int32, len(rows))
	for i, number := range rows {
		less[i] = d.rowWithout(number, fields)
	}
	return inOrder(less)
}

// addThen adds rows of which no two are alike, for those of next set the same fields,
// and those of first none of these.
func (d *draft) addThen(rows, first, next []int32) []int32 {
	must(len(first)*len(next) <= maxRows)
	d.work(len(first) * len(next))
	for _, x := range first {
		for _, y := range next {
			rows = append(rows, d.rowThen(x, y))
		}
	}
	if len(rows) > maxRows {
		rows = inOrder(rows)
		must(len(rows) <= maxRows)
	}
	return rows
}

// inOrder puts rows in order, each once, within their own list.
func inOrder(rows []int32) []int32 {
	slices.Sort(rows)
	return slices.Compact(rows)
}

// numbersText is a text that no other numbers have.
func numbersText(numbers []int32) string {
	b := make([]byte, 0, 4*len(numbers))
	for _, n := range numbers {
		b = append(b, byte(n), byte(n>>8), byte(n>>16), byte(n>>24))
	}
	return string(b)
}
