package frame

import (
	"tollbridge/api"
	"tollbridge/header"
)

// cursor reads a frame from its front on. What is short, or other than the form
// has it, ends the reading by a panic, which Parse turns into its answer.
type cursor struct {
	rest []byte
}

func must(holds bool) {
	if !holds {
		panic(api.ErrFrame)
	}
}

// number reads as many bytes as size says, at most 8.
func (c *cursor) number(size int) uint64 {
	must(size <= len(c.rest))
	var n uint64
	for _, digit := range c.rest[:size] {
		n = n<<8 | uint64(digit)
	}
	c.rest = c.rest[size:]
	return n
}

func (c *cursor) expect(size int, want uint64) {
	must(c.number(size) == want)
}

// body takes all that is left, as new memory: the caller may change the bytes.
func (c *cursor) body() []byte {
	body := append([]byte(nil), c.rest...)
	c.rest = nil
	return body
}

func (c *cursor) packet() api.Packet {
	h := c.ethernet()
	must(len(c.rest) <= roomInside)
	switch h[api.Kind] {
	case kindARP:
		return c.arp(h)
	case kindIP:
		h = c.ports(c.ip(h))
	}
	return api.Packet{H: h, Body: c.body()}
}

// ethernet reads up to Kind. It leaves to header.Check a Kind that is none (a
// second tag's among them) and a tag that is too great.
func (c *cursor) ethernet() api.Header {
	var h api.Header
	h[api.Dst] = c.number(6)
	h[api.Src] = c.number(6)
	h[api.Kind] = c.number(2)
	if h[api.Kind] == kindTag {
		h[api.Vlan] = c.number(2)
		must(h[api.Vlan] != 0)
		h[api.Kind] = c.number(2)
	}
	must(header.Check(h) == api.OK)
	return h
}

func (c *cursor) arp(h api.Header) api.Packet {
	c.expect(6, arpFirst)
	op := c.number(2)
	must(op == opAsk || op == opAnswer)
	c.expect(6, h[api.Src])
	h[api.From] = c.number(4)
	c.expect(6, target(h, op))
	h[api.To] = c.number(4)
	must(len(c.rest) == 0)
	return api.Packet{H: h, Body: []byte{byte(op)}}
}

func (c *cursor) ip(h api.Header) api.Header {
	length := len(c.rest)
	c.expect(2, ipFirst)
	c.expect(2, uint64(length))
	c.expect(4, 0)
	c.expect(1, ipHops)
	h[api.Proto] = c.number(1)
	sum := c.number(2)
	h[api.From] = c.number(4)
	h[api.To] = c.number(4)
	must(sum == headSum(h, length))
	return h
}

func (c *cursor) ports(h api.Header) api.Header {
	length := len(c.rest)
	switch h[api.Proto] {
	case protoTCP:
		h[api.SPort] = c.number(2)
		h[api.DPort] = c.number(2)
		c.expect(8, 0)
		c.expect(2, tcpFlags)
		c.expect(6, 0)
	case protoUDP:
		h[api.SPort] = c.number(2)
		h[api.DPort] = c.number(2)
		c.expect(2, uint64(length))
		c.expect(2, 0)
	}
	return h
}
