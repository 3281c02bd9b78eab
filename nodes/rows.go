package nodes

import (
	"cmp"
	"slices"
	"strconv"

	"tollbridge/api"
)

// leafRows is rows anew, as a leaf has them; false, if they can be none of a leaf.
func leafRows(l [][]api.Action) ([][]api.Action, bool) {
	rows := make([][]api.Action, 0, len(l))
	for _, row := range l {
		if slices.ContainsFunc(row, noSetting) {
			return nil, false
		}
		sorted := inOrder(row, byField)
		if len(sorted) < len(row) {
			return nil, false // a field stood there twice
		}
		rows = append(rows, sorted)
	}
	return inOrder(rows, byRow), true
}

// inOrder is the list anew, by rising order, and of those that are alike one.
func inOrder[T any](list []T, compare func(a, b T) int) []T {
	sorted := append([]T(nil), list...)
	slices.SortFunc(sorted, compare)
	return slices.CompactFunc(sorted, func(a, b T) bool { return compare(a, b) == 0 })
}

func noSetting(a api.Action) bool {
	return a.Do != api.ActSet || !fits(a.Field, a.N)
}

func byField(a, b api.Action) int {
	return cmp.Compare(a.Field, b.Field)
}

func bySetting(a, b api.Action) int {
	return cmp.Or(cmp.Compare(a.Field, b.Field), cmp.Compare(a.N, b.N))
}

func byRow(a, b []api.Action) int {
	return slices.CompareFunc(a, b, bySetting)
}

// rowsText is a text that no other rows have: each setting begins with its
// field's letter, and each row ends with a sign that is no letter and no digit.
func rowsText(rows [][]api.Action) string {
	var b []byte
	for _, row := range rows {
		for _, a := range row {
			b = append(b, 'a'+byte(a.Field))
			b = strconv.AppendUint(b, a.N, 10)
		}
		b = append(b, ';')
	}
	return string(b)
}

func copyRows(rows [][]api.Action) [][]api.Action {
	var all [][]api.Action
	for _, row := range rows {
		all = append(all, slices.Clone(row))
	}
	return all
}
