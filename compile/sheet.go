package compile

import (
	"tollbridge/api"
	"tollbridge/nodes"
)

// storeLeaf is the Field by which a store tells a leaf.
const storeLeaf = -1

// sheet is a diagram in a store of its own, with no node beside its own: what came in
// between does not take the room of what is yet to come.
type sheet struct {
	store *nodes.Store
	id    int
}

// leaf is the sheet of a leaf.
func leaf(rows ...[]api.Action) sheet {
	s := nodes.New()
	return sheet{store: s, id: sure(s.Leaf(rows))}
}

// test is the sheet of what leaves a header as it is, if the field is N.
func test(field int8, n uint64) sheet {
	s := nodes.New()
	return sheet{store: s, id: sure(s.Test(field, n, sure(s.Leaf([][]api.Action{nil})), sure(s.Leaf(nil))))}
}

// change is what is made of a sheet, which is used up.
func (a sheet) change(how func(s *nodes.Store, a int) (int, api.Errno)) sheet {
	return alone(a.store, sure(how(a.store, a.id)))
}

// join is what is made of two sheets, which are used up.
func (a sheet) join(b sheet, how func(s *nodes.Store, a, b int) (int, api.Errno)) sheet {
	return alone(a.store, sure(how(a.store, a.id, carry(b.store, a.store).node(b.id))))
}

func alone(s *nodes.Store, id int) sheet {
	own := nodes.New()
	return sheet{store: own, id: carry(s, own).node(id)}
}

// put brings a sheet into a store. Where it may be too big for that it is put into a
// copy ahead, for a store takes no node back, and a refused call leaves it as it was.
func (a sheet) put(s *nodes.Store) int {
	if a.store.Len() > api.MaxNodes-s.Len() {
		carry(a.store, copyOf(s)).node(a.id)
	}
	return carry(a.store, s).node(a.id)
}

// copyOf has the same nodes by the same numbers, for they come in the same order.
func copyOf(s *nodes.Store) *nodes.Store {
	all := nodes.New()
	c := carry(s, all)
	for id := range s.Len() {
		c.node(id)
	}
	return all
}

// carrier brings nodes from one store into another.
type carrier struct {
	from, to *nodes.Store
	carried  map[int]int // their numbers there, by those here
}

func carry(from, to *nodes.Store) *carrier {
	return &carrier{from: from, to: to, carried: map[int]int{}}
}

func (c *carrier) node(id int) int {
	if there, ok := c.carried[id]; ok {
		return there
	}
	node, _ := c.from.Get(id)
	var there int
	if node.Field == storeLeaf {
		there = sure(c.to.Leaf(node.Leaf))
	} else {
		there = sure(c.to.Test(node.Field, node.N, c.node(node.Hi), c.node(node.Lo)))
	}
	c.carried[id] = there
	return there
}

// sure leaves by a panic that draw turns into its answer, where a store has no room.
func sure(id int, e api.Errno) int {
	if e != api.OK {
		panic(e)
	}
	return id
}
