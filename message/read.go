package message

import "tollbridge/api"

// isShort tells whether there are fewer bytes than any message has, or than
// these say themselves.
func isShort(b []byte) bool {
	if len(b) < headSize {
		return true
	}
	c := cursor{rest: b[sizeFirst:]}
	return len(b) < c.count()
}

// cursor reads from the front on. Bytes that are short, or other than a message
// has them, end the reading by a panic, which Decode turns into its answer.
type cursor struct {
	rest []byte
}

func (c *cursor) bytes(size int) []byte {
	must(size <= len(c.rest))
	taken := c.rest[:size]
	c.rest = c.rest[size:]
	return taken
}

func (c *cursor) number(size int) uint64 {
	var n uint64
	for _, b := range c.bytes(size) {
		n = n<<8 | uint64(b)
	}
	return n
}

// small reads a number below 128. A byte that is more comes out below 0, which
// nothing that is read so may be.
func (c *cursor) small() int8 {
	return int8(c.number(1))
}

func (c *cursor) count() int {
	return int(c.number(countSize))
}

func readList[T any](c *cursor, read func(c *cursor) T) []T {
	var list []T
	for range c.count() {
		list = append(list, read(c))
	}
	return list
}

func (c *cursor) message() api.Message {
	size := len(c.rest)
	must(size <= api.MaxMessage)
	must(c.number(1) == firstByte)
	m := api.Message{Type: c.small()}
	must(c.count() == size)
	m.Id = uint32(c.number(4))
	for _, p := range partsOf(m.Type) {
		p.read(c, &m)
	}
	must(len(c.rest) == 0)
	return m
}

func (c *cursor) short() uint16 {
	return uint16(c.number(2))
}

func (c *cursor) shorts() []uint16 {
	return readList(c, (*cursor).short)
}

func (c *cursor) do() int8 {
	do := c.small()
	must(isDo(do))
	return do
}

func (c *cursor) more() uint16 {
	port := c.short()
	must(port <= 1)
	return port
}

func (c *cursor) up() bool {
	n := c.number(1)
	must(n <= 1)
	return n == 1
}

// frame is new memory: the caller may change the bytes that are read.
func (c *cursor) frame() []byte {
	return append([]byte(nil), c.bytes(c.count())...)
}

func (c *cursor) helds() []api.Held {
	return readList(c, (*cursor).held)
}

func (c *cursor) held() api.Held {
	var h api.Held
	h.Rule = c.rule()
	h.Counts.Packets = c.number(8)
	h.Counts.Bytes = c.number(8)
	return h
}

func (c *cursor) rule() api.Rule {
	var r api.Rule
	r.Rank = int(int32(c.number(4)))
	r.Cookie = c.number(8)
	r.Match = c.match()
	r.Copies = readList(c, (*cursor).actions)
	return r
}

// match wants of each field that it has a Mask that is not 0: left out it would
// be the same match, in other bytes.
func (c *cursor) match() api.Match {
	var m api.Match
	masked := c.number(2)
	must(masked>>api.Fields == 0)
	for field := range m.Mask {
		if masked>>field&1 == 1 {
			m.Value[field] = c.number(fieldSizes[field])
			m.Mask[field] = c.number(fieldSizes[field])
			must(m.Mask[field] != 0)
		}
	}
	must(isMatch(m))
	return m
}

func (c *cursor) actions() []api.Action {
	return readList(c, (*cursor).action)
}

func (c *cursor) action() api.Action {
	var a api.Action
	a.Do = c.small()
	a.Field = c.small()
	a.N = c.number(8)
	must(isAction(a))
	return a
}
