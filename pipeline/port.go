package pipeline

import (
	"slices"

	"tollbridge/api"
	"tollbridge/frame"
)

// Kinds of frames that are no data.
const (
	kindARP   = 0x806
	kindProbe = 0x88b5
)

// port is where frames come in and go out: an edge port or an inner one.
type port struct {
	number uint16
	inner  bool
	up     bool
	queue  [][]byte
}

func isTagged(h api.Header) bool {
	return h[api.Vlan] != 0
}

func isData(h api.Header) bool {
	return h[api.Kind] != kindARP && h[api.Kind] != kindProbe
}

// suits tells whether a header has a tag, or has none, as the port asks.
func (p *port) suits(h api.Header) bool {
	return isTagged(h) == p.inner
}

// mayHave tells whether the controller may put that frame into the queue: what
// is no data goes without a tag by inner ports too.
func (p *port) mayHave(b []byte) bool {
	packet, fault := frame.Parse(b)
	if fault != api.OK {
		return false
	}
	return p.suits(packet.H) || !isData(packet.H) && !isTagged(packet.H)
}

func (p *port) hasRoom() bool {
	return len(p.queue) < api.MaxQueue
}

func (p *port) put(b []byte) {
	p.queue = append(p.queue, b)
}

func (p *port) next() ([]byte, bool) {
	if len(p.queue) == 0 {
		return nil, false
	}
	b := p.queue[0]
	p.queue = slices.Delete(p.queue, 0, 1)
	return b, true
}
