package pipeline

import (
	"slices"

	"tollbridge/actions"
	"tollbridge/api"
	"tollbridge/frame"
	"tollbridge/header"
)

// arrival is a frame that came in; its packet's header says where.
type arrival struct {
	at     *port
	packet api.Packet
	frame  []byte
}

// line is a line of the table that says what becomes of a frame.
type line struct {
	speaks func(p *port, h api.Header) bool
	then   func(s *Switch, a arrival) // nil: the frame is dropped
}

// lines are in their order: the first that speaks of a frame tells, and the
// last one speaks of all.
func lines() []line {
	return []line{
		{
			speaks: func(p *port, h api.Header) bool { return !p.inner && (isTagged(h) || h[api.Kind] == kindProbe) },
		},
		{
			speaks: func(p *port, h api.Header) bool { return !p.inner && h[api.Kind] == kindARP },
			then:   (*Switch).punt,
		},
		{
			speaks: func(p *port, h api.Header) bool { return p.inner && h[api.Kind] == kindProbe },
			then:   (*Switch).punt,
		},
		{
			speaks: func(p *port, h api.Header) bool { return p.inner && !isTagged(h) },
		},
		{
			speaks: func(p *port, h api.Header) bool { return true },
			then:   (*Switch).toTable,
		},
	}
}

func (s *Switch) comeIn(p *port, b []byte) {
	packet, fault := frame.Parse(b)
	if fault != api.OK {
		return
	}
	packet.H[api.Port], packet.H[api.Switch] = uint64(p.number), uint64(s.id)
told:
	for _, l := range lines() {
		switch {
		case !l.speaks(p, packet.H):
			continue
		case l.then == nil:
			break told
		}
		l.then(s, arrival{at: p, packet: packet, frame: b})
		break
	}
}

func (s *Switch) punt(a arrival) {
	if len(s.punts) < api.MaxQueue {
		s.punts = append(s.punts, api.Message{Type: api.MsgIn, Port: a.at.number, Frame: slices.Clone(a.frame)})
	}
}

func (s *Switch) toTable(a arrival) {
	r := s.rules.find(a.packet.H, len(a.frame))
	out, punted := actions.Run(a.packet.H, r.Copies, s.numbers)
	if punted {
		s.punt(a)
	}
	for _, h := range out {
		s.send(h, a.packet.Body)
	}
	s.hops = append(s.hops, hopOf(a.packet.H, r.Cookie, out))
}

// send puts the frame of a header, whose Port is one of the switch's, into that
// port's queue, or drops it. Build refuses what is no header.
func (s *Switch) send(h api.Header, body []byte) {
	p, open := s.open(uint16(h[api.Port]))
	if !open || !p.suits(h) || !p.hasRoom() {
		return
	}
	if b, fault := frame.Build(api.Packet{H: h, Body: body}); fault == api.OK {
		p.put(b)
	}
}

// hopOf has in Out what the rule sends, be it dropped for its tag, for a port
// that is down or for want of room.
func hopOf(in api.Header, cookie uint64, out []api.Header) api.Hop {
	hop := api.Hop{Policy: int(cookie >> 32), In: untagged(in)}
	for _, h := range out {
		if header.Check(h) == api.OK && !slices.Contains(hop.Out, untagged(h)) {
			hop.Out = append(hop.Out, untagged(h))
		}
	}
	return hop
}

func untagged(h api.Header) api.Header {
	h[api.Vlan] = 0
	return h
}
