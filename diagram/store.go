package diagram

import (
	"tollbridge/api"
	"tollbridge/nodes"
)

// storeLeaf is the Field by which a store tells a leaf.
const storeLeaf = -1

// isNothing tells whether a node is the leaf without rows.
func isNothing(s *nodes.Store, id int) bool {
	node, _ := s.Get(id)
	return node.Field == storeLeaf && len(node.Leaf) == 0
}

// isSame tells whether a node is the leaf of one row without settings.
func isSame(s *nodes.Store, id int) bool {
	node, _ := s.Get(id)
	return node.Field == storeLeaf && len(node.Leaf) == 1 && len(node.Leaf[0]) == 0
}

func isPredicate(s *nodes.Store, id int) bool {
	seen := map[int]struct{}{}
	var down func(id int) bool
	down = func(id int) bool {
		if _, ok := seen[id]; ok {
			return true
		}
		seen[id] = struct{}{}
		node, _ := s.Get(id)
		if node.Field == storeLeaf {
			return isNothing(s, id) || isSame(s, id)
		}
		return down(node.Hi) && down(node.Lo)
	}
	return down(id)
}

// leafOf tells the rows to which a header comes.
func leafOf(s *nodes.Store, id int, h api.Header) [][]api.Action {
	node, _ := s.Get(id)
	for node.Field != storeLeaf {
		next := node.Lo
		if h[node.Field] == node.N {
			next = node.Hi
		}
		node, _ = s.Get(next)
	}
	return node.Leaf
}

// take draws a store's diagram anew, and tells its place.
func (d *draft) take(s *nodes.Store, id int) int {
	taken := map[int]int{}
	var down func(id int) int
	down = func(id int) int {
		if at, ok := taken[id]; ok {
			return at
		}
		node, _ := s.Get(id)
		at := 0
		if node.Field == storeLeaf {
			at = d.leaf(d.rowsOf(node.Leaf))
		} else {
			at = d.test(test{int(node.Field), node.N}, down(node.Hi), down(node.Lo))
		}
		taken[id] = at
		return at
	}
	return down(id)
}

// fewParts are so few that it is not worth while to look for fewer.
const fewParts = 1 << 10

// sketch is a diagram of a draft. One that was too big has no draft.
type sketch struct {
	*draft
	at, size int
}

func sketched(d *draft, join func(d *draft) int) sketch {
	at, e := attempt(func() int { return join(d) })
	if e != api.OK {
		return sketch{size: api.MaxNodes + 1}
	}
	return sketch{draft: d, at: at, size: d.size(at, api.MaxNodes)}
}

// attempt tells what does not fit from what was made.
func attempt(do func() int) (at int, fault api.Errno) {
	defer func() {
		if recover() != nil {
			at, fault = 0, api.ErrTooBig
		}
	}()
	return do(), api.OK
}

// put brings a diagram into a store. Where it may be too big for that it is put into
// a copy ahead, for a store takes no node back, and a refused call leaves it as it
// was. (A store that is full stays so anyway.)
func (x sketch) put(s *nodes.Store) (int, api.Errno) {
	if x.draft == nil {
		return 0, api.ErrTooBig
	}
	return attempt(func() int {
		if room := api.MaxNodes - s.Len(); room > 0 && x.size > room {
			x.carry(copyOf(s), x.at)
		}
		return x.carry(s, x.at)
	})
}

func (d *draft) carry(s *nodes.Store, at int) int {
	carried := map[int]int{}
	var down func(at int) int
	down = func(at int) int {
		if id, ok := carried[at]; ok {
			return id
		}
		p := d.parts[at]
		var id int
		var e api.Errno
		if p.isLeaf() {
			id, e = s.Leaf(d.settings(p.rows))
		} else {
			id, e = s.Test(int8(p.field), p.n, down(p.hi), down(p.lo))
		}
		must(e == api.OK)
		carried[at] = id
		return id
	}
	return down(at)
}

// copyOf has the same nodes by the same numbers, for they come in the same order.
func copyOf(s *nodes.Store) *nodes.Store {
	all := nodes.New()
	for id := range s.Len() {
		node, _ := s.Get(id)
		if node.Field == storeLeaf {
			all.Leaf(node.Leaf)
		} else {
			all.Test(node.Field, node.N, node.Hi, node.Lo)
		}
	}
	return all
}
