package diagram

import (
	"slices"

	"tollbridge/api"
)

// row is a leaf's row: the fields that it sets, a bit each, and to what; of others 0.
type row struct {
	sets uint16
	to   api.Header
}

func (r row) has(field int) bool {
	return r.sets>>field&1 == 1
}

func (r row) with(field int, n uint64) row {
	r.sets |= 1 << field
	r.to[field] = n
	return r
}

// without is the row where the test holds.
func (r row) without(t test) row {
	if r.has(t.field) && r.to[t.field] == t.n {
		r.sets &^= 1 << t.field
		r.to[t.field] = 0
	}
	return r
}

// then is a row that does what both do, one behind the other.
func (r row) then(next row) row {
	for field, n := range next.to {
		if next.has(field) {
			r = r.with(field, n)
		}
	}
	return r
}

func (d *draft) number(r row) int {
	number, ok := d.numbers[r]
	if !ok {
		d.work(rowWork)
		number = len(d.rows)
		d.numbers[r] = number
		d.rows = append(d.rows, r)
	}
	return number
}

// setBy tells the fields that one of the rows sets, a bit each.
func (d *draft) setBy(rows []int) uint16 {
	var sets uint16
	for _, number := range rows {
		sets |= d.rows[number].sets
	}
	return sets
}

// rowsOf are the numbers of a store's leaf's rows.
func (d *draft) rowsOf(leaf [][]api.Action) []int {
	var rows []int
	for _, settings := range leaf {
		var r row
		for _, x := range settings {
			r = r.with(int(x.Field), x.N)
		}
		rows = append(rows, d.number(r))
	}
	return rows
}

// settings are the rows as a store takes them.
func (d *draft) settings(rows []int) [][]api.Action {
	var leaf [][]api.Action
	for _, number := range rows {
		var settings []api.Action
		r := d.rows[number]
		for field, n := range r.to {
			if r.has(field) {
				settings = append(settings, api.Action{Do: api.ActSet, Field: int8(field), N: n})
			}
		}
		leaf = append(leaf, settings)
	}
	return leaf
}

func rowsOfBoth(rows, others []int) []int {
	return append(slices.Clone(rows), others...)
}

// rowsBeside are the rows, without those that others are too; both rise.
func rowsBeside(rows, others []int) []int {
	return slices.DeleteFunc(slices.Clone(rows), func(number int) bool {
		_, found := slices.BinarySearch(others, number)
		return found
	})
}

// numbersText is a text that no other numbers have.
func numbersText(numbers []int) string {
	var b []byte
	for _, n := range numbers {
		b = append(b, byte(n), byte(n>>8), byte(n>>16), byte(n>>24))
	}
	return string(b)
}
