package tuples

import (
	"math"
	"slices"

	"tollbridge/api"
)

// entry is what a search needs of a rule.
type entry struct {
	rank   int
	number int
}

// ahead: whether a is found rather than b, where both hit.
func ahead(a, b entry) bool {
	return a.rank > b.rank || a.rank == b.rank && a.number < b.number
}

// row is the rules of one mask. Those of one Value are hit by the same headers,
// so that the first of them, put into order, stands for all.
type row struct {
	mask  api.Header
	top   int // the greatest Rank in it
	cells map[api.Header][]entry
}

func newRow(mask api.Header) *row {
	return &row{mask: mask, top: math.MinInt, cells: map[api.Header][]entry{}}
}

// higher: whether a is searched ahead of b.
func higher(a, b *row) bool {
	return a.top > b.top
}

func (w *row) add(value api.Header, e entry) {
	w.cells[value] = placed(w.cells[value], e, ahead)
	w.top = max(w.top, e.rank)
}

func (w *row) drop(value api.Header, number int) {
	left := slices.DeleteFunc(w.cells[value], func(e entry) bool {
		return e.number == number
	})
	if len(left) > 0 {
		w.cells[value] = left
	} else {
		delete(w.cells, value)
	}
	w.top = w.greatest()
}

func (w *row) greatest() int {
	top := math.MinInt
	for _, cell := range w.cells {
		top = max(top, cell[0].rank)
	}
	return top
}

// first is the one of the rules that hit h that is ahead of all the others.
func (w *row) first(h api.Header) (entry, bool) {
	cell := w.cells[masked(h, w.mask)]
	if len(cell) == 0 {
		return entry{}, false
	}
	return cell[0], true
}

func masked(h, mask api.Header) api.Header {
	for field, bits := range mask {
		h[field] &= bits
	}
	return h
}

// placed puts x into a list that is in order, behind all that it does not go
// before.
func placed[T any](list []T, x T, before func(a, b T) bool) []T {
	at := len(list)
	for at > 0 && before(x, list[at-1]) {
		at--
	}
	return slices.Insert(list, at, x)
}
