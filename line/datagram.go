package line

import (
	"tollbridge/api"
	"tollbridge/crc"
)

// Bytes of a datagram's parts.
const (
	numberSize = 4
	lengthSize = 2
	headSize   = 3*numberSize + lengthSize
	maxSealed  = 1 << 14
)

// datagram is what one end tells the other.
type datagram struct {
	epoch    uint32
	come     uint64 // how many have come to the end that tells it
	first    uint64 // the number of the first message
	messages [][]byte
}

// write seals d with as many of its messages as go in. The head says how many
// those are, so it is written last; it and the messages lie in one room, cut so
// that neither's appends reach into the other or past the room's end.
func write(d datagram) []byte {
	var room [maxSealed]byte
	head := room[:0:headSize]
	body := room[headSize:headSize:maxSealed]
	count := 0
	for _, m := range d.messages {
		if headSize+len(body)+lengthSize+len(m) > maxSealed {
			break
		}
		body = appendBig(body, lengthSize, uint64(len(m)))
		body = append(body, m...)
		count++
	}
	head = appendBig(head, numberSize, uint64(d.epoch))
	head = appendBig(head, numberSize, d.come)
	head = appendBig(head, numberSize, d.first)
	head = appendBig(head, lengthSize, uint64(count))
	// There is no error to be told: the room is no longer than crc.Seal takes.
	sealed, _ := crc.Seal(room[:len(head)+len(body)])
	return sealed
}

// appendBig writes the lowest bytes of n, the greatest of them first.
func appendBig(list []byte, size int, n uint64) []byte {
	for size > 0 {
		size--
		list = append(list, byte(n>>(8*size)))
	}
	return list
}

// read is a datagram out of what was sealed; its messages lie in that memory.
func read(sealed []byte) (d datagram, fault api.Errno) {
	if len(sealed) < headSize {
		return datagram{}, api.ErrShort
	}
	defer func() {
		if recover() != nil {
			d, fault = datagram{}, api.ErrMessage
		}
	}()
	c := cursor{rest: sealed}
	return c.datagram(), api.OK
}

// cursor reads from the front on. Bytes that are short, or other than a datagram
// has them, end the reading by a panic, which read turns into its answer.
type cursor struct {
	rest []byte
}

func must(holds bool) {
	if !holds {
		panic(api.ErrMessage)
	}
}

func (c *cursor) bytes(size int) []byte {
	must(size <= len(c.rest))
	taken := c.rest[:size]
	c.rest = c.rest[size:]
	return taken
}

func (c *cursor) number(size int) uint64 {
	var n uint64
	for _, b := range c.bytes(size) {
		n = n<<8 | uint64(b)
	}
	return n
}

func (c *cursor) datagram() datagram {
	var d datagram
	d.epoch = uint32(c.number(numberSize))
	d.come = c.number(numberSize)
	d.first = c.number(numberSize)
	d.messages = c.messages()
	must(len(c.rest) == 0)
	return d
}

func (c *cursor) messages() [][]byte {
	count := c.number(lengthSize)
	must(count <= api.MaxWindow)
	var list [][]byte
	for range count {
		list = append(list, c.message())
	}
	return list
}

func (c *cursor) message() []byte {
	size := c.number(lengthSize)
	must(size <= api.MaxMessage)
	return c.bytes(int(size))
}
