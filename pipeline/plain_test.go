package pipeline

import (
	"bytes"
	"math"
	"math/rand"
	"reflect"
	"slices"
	"testing"

	"tollbridge/actions"
	"tollbridge/api"
	"tollbridge/flows"
	"tollbridge/frame"
	"tollbridge/header"
)

// plain is a switch of the chapter's words, without a cache.
type plain struct {
	id          uint16
	edge, inner []uint16
	down        map[uint16]bool
	table       *flows.Table
	queues      map[uint16][][]byte
	punts       []api.Message
	hops        []api.Hop
}

func newPlain(id uint16, edge, inner []uint16, room int) *plain {
	return &plain{id: id, edge: edge, inner: inner, down: map[uint16]bool{}, table: flows.New(room), queues: map[uint16][][]byte{}}
}

func (p *plain) there(port uint16) bool {
	return slices.Contains(p.edge, port) || slices.Contains(p.inner, port)
}

func (p *plain) Rule(what int8, r api.Rule) (int, api.Errno) {
	if what == 0 || what == 1 {
		if e := actions.Check(r); e != api.OK {
			return 0, e
		}
	}
	return p.table.Do(what, r)
}

func (p *plain) Take(port uint16, b []byte) api.Errno {
	if !p.there(port) || p.down[port] {
		return api.ErrNone
	}
	packet, e := frame.Parse(b)
	if e != api.OK {
		return api.OK
	}
	h := packet.H
	h[api.Port], h[api.Switch] = uint64(port), uint64(p.id)
	if slices.Contains(p.edge, port) {
		switch {
		case h[api.Vlan] != 0, h[api.Kind] == 0x88b5:
		case h[api.Kind] == 0x806:
			p.punt(port, b)
		default:
			p.toTable(port, h, packet.Body, b)
		}
		return api.OK
	}
	switch {
	case h[api.Kind] == 0x88b5:
		p.punt(port, b)
	case h[api.Vlan] != 0:
		p.toTable(port, h, packet.Body, b)
	}
	return api.OK
}

func (p *plain) punt(port uint16, b []byte) {
	if len(p.punts) < 64 {
		p.punts = append(p.punts, api.Message{Type: api.MsgIn, Port: port, Frame: b})
	}
}

func (p *plain) toTable(port uint16, h api.Header, body, b []byte) {
	r, found := p.table.Find(h, len(b))
	hop := api.Hop{In: h}
	hop.In[api.Vlan] = 0
	if found {
		hop.Policy = int(r.Cookie / (1 << 32))
		out, punt := actions.Run(h, r.Copies, slices.Concat(p.edge, p.inner))
		if punt {
			p.punt(port, b)
		}
		for _, o := range out {
			if header.Check(o) != api.OK {
				continue
			}
			p.send(uint16(o[api.Port]), o, body)
			o[api.Vlan] = 0
			if !slices.Contains(hop.Out, o) {
				hop.Out = append(hop.Out, o)
			}
		}
	}
	p.hops = append(p.hops, hop)
}

func (p *plain) send(port uint16, h api.Header, body []byte) {
	tagged := h[api.Vlan] != 0
	if p.down[port] || tagged != slices.Contains(p.inner, port) || len(p.queues[port]) >= 64 {
		return
	}
	if b, e := frame.Build(api.Packet{H: h, Body: body}); e == api.OK {
		p.queues[port] = append(p.queues[port], b)
	}
}

func (p *plain) Up(port uint16, up bool) api.Errno {
	if !p.there(port) {
		return api.ErrNone
	}
	if p.down[port] == up {
		p.down[port] = !up
		p.queues[port] = nil
		p.punts = append(p.punts, api.Message{Type: api.MsgPort, Port: port, Up: up})
	}
	return api.OK
}

func (p *plain) Next(port uint16) ([]byte, bool) {
	if len(p.queues[port]) == 0 {
		return nil, false
	}
	b := p.queues[port][0]
	p.queues[port] = p.queues[port][1:]
	return b, true
}

func (p *plain) Send(port uint16, b []byte) api.Errno {
	if !p.there(port) || p.down[port] {
		return api.ErrNone
	}
	packet, e := frame.Parse(b)
	tagged, special := packet.H[api.Vlan] != 0, packet.H[api.Kind] == 0x806 || packet.H[api.Kind] == 0x88b5
	fits := tagged && slices.Contains(p.inner, port) || !tagged && (slices.Contains(p.edge, port) || special)
	if e != api.OK || !fits {
		return api.ErrFrame
	}
	if len(p.queues[port]) >= 64 {
		return api.ErrFull
	}
	p.queues[port] = append(p.queues[port], b)
	return api.OK
}

func (p *plain) Punts() []api.Message {
	list := p.punts
	p.punts = nil
	return list
}

func (p *plain) Helds() []api.Held {
	return append(p.table.Helds(), p.table.Gone()...)
}

func (p *plain) Hops() []api.Hop {
	list := p.hops
	p.hops = nil
	return list
}

// doer is what can be done to a switch, plain or not.
type doer interface {
	Rule(what int8, r api.Rule) (int, api.Errno)
	Take(port uint16, b []byte) api.Errno
	Up(port uint16, up bool) api.Errno
	Next(port uint16) ([]byte, bool)
	Send(port uint16, b []byte) api.Errno
	Punts() []api.Message
	Helds() []api.Held
	Hops() []api.Hop
}

func pick[T any](g *rand.Rand, list ...T) T {
	return list[g.Intn(len(list))]
}

func somePort(g *rand.Rand) uint16 {
	return pick[uint16](g, 1, 1, 2, 2, 3, 3, 4, 65535, 0, 9)
}

// someFrame is one of few, so that headers come again; now and then it is none.
func someFrame(t *testing.T, g *rand.Rand) []byte {
	h := api.Header{api.Src: 1, api.Dst: uint64(g.Intn(4)), api.Vlan: pick[uint64](g, 0, 0, 7, 4095)}
	body := []byte{pick[byte](g, 1, 2)}
	switch h[api.Kind] = pick[uint64](g, 0x600, 0x600, 0x800, 0x800, 0x806, 0x88b5); h[api.Kind] {
	case 0x800:
		h[api.Proto], h[api.DPort] = 17, pick[uint64](g, 80, 53)
	case 0x806:
		h[api.From] = 5
	}
	b := build(t, h, body...)
	if g.Intn(20) == 0 {
		b = b[:g.Intn(len(b))]
	}
	return b
}

func someAction(g *rand.Rand) api.Action {
	switch g.Intn(12) {
	case 0, 1:
		return set(api.Vlan, pick[uint64](g, 0, 7, 4095))
	case 2:
		return set(pick[int8](g, api.Dst, api.DPort, api.From), uint64(g.Intn(4)))
	case 3:
		return puntAct()
	case 4:
		if g.Intn(10) == 0 {
			return pick(g, set(api.Kind, 0x800), out(65536), api.Action{Do: 3}, set(api.Vlan, 4096))
		}
	}
	return out(pick[uint64](g, 0, 1, 2, 3, 3, 4, 65535, 9))
}

func someRule(g *rand.Rand) api.Rule {
	var r api.Rule
	for _, field := range []int{api.Dst, api.Vlan, api.Port} {
		r.Match.Mask[field] = pick[uint64](g, 0, 0, 1, 3)
		r.Match.Value[field] = uint64(g.Intn(4)) & r.Match.Mask[field]
	}
	if g.Intn(30) == 0 {
		r.Match.Value[api.To] = 1
	}
	r.Rank = g.Intn(4)
	r.Cookie = pick[uint64](g, 0, 1<<32, 2<<32|1, 2<<32|2, math.MaxUint64)
	for range g.Intn(4) {
		var list []api.Action
		for range g.Intn(4) {
			list = append(list, someAction(g))
		}
		r.Copies = append(r.Copies, list)
	}
	return r
}

// someCall is a call, as likely as not a Take, that tells what it answered.
func someCall(t *testing.T, g *rand.Rand) func(d doer) any {
	port, b, up := somePort(g), someFrame(t, g), g.Intn(3) > 0
	what, r := pick[int8](g, 0, 0, 0, 0, 1, 2, 3, 4, -1), someRule(g)
	if what == api.RuleDelete && g.Intn(4) > 0 {
		what = api.RuleStrict
	}
	type answer struct {
		n     int
		e     api.Errno
		b     string
		ok    bool
		punts []api.Message
		helds []api.Held
		hops  []api.Hop
	}
	return []func(d doer) any{
		func(d doer) any { n, e := d.Rule(what, r); return answer{n: n, e: e} },
		func(d doer) any { return answer{e: d.Up(port, up)} },
		func(d doer) any { b, ok := d.Next(port); return answer{b: string(b), ok: ok} },
		func(d doer) any { return answer{e: d.Send(port, b)} },
		func(d doer) any { return answer{punts: append([]api.Message{}, d.Punts()...)} },
		func(d doer) any { return answer{helds: append([]api.Held{}, d.Helds()...)} },
		func(d doer) any { return answer{hops: append([]api.Hop{}, d.Hops()...)} },
		func(d doer) any { return answer{e: d.Take(port, b)} },
	}[pick(g, 0, 0, 1, 2, 2, 3, 3, 4, 5, 6, 7, 7, 7, 7, 7, 7, 7, 7, 7, 7, 7)]
}

// kept: P13.10, and that no more rules are kept beside the table than it has.
func kept(t *testing.T, s *Switch) {
	t.Helper()
	frames := 0
	for _, m := range s.punts {
		if m.Type == api.MsgIn {
			frames++
		}
	}
	if frames > api.MaxQueue {
		t.Errorf("%d frames are punted", frames)
	}
	for _, p := range s.ports {
		if len(p.queue) > api.MaxQueue {
			t.Errorf("%d frames at port %d", len(p.queue), p.number)
		}
		for _, b := range p.queue {
			packet, e := frame.Parse(b)
			kind, tag := packet.H[api.Kind], packet.H[api.Vlan]
			if e != api.OK || kind != 0x806 && kind != 0x88b5 && (tag != 0) != p.inner {
				t.Errorf("%x at port %d", b, p.number)
			}
		}
	}
	if rules := len(s.rules.table.Helds()); len(s.rules.found) > rules || len(s.rules.numbers) > rules {
		t.Errorf("%d and %d rules are kept, of %d", len(s.rules.found), len(s.rules.numbers), rules)
	}
}

// P13.2 to P13.10: whatever is done in whatever order, switches with caches of
// any size answer what the plain one does.
func TestAgainstPlain(t *testing.T) {
	sizes := []int{math.MinInt, -1, 0, 1, 2, 3, 8, 1024, 1025, math.MaxInt}
	for seed := range int64(40) {
		g := rand.New(rand.NewSource(seed))
		edge, inner, room := []uint16{1, 2, 65535}, []uint16{3, 4}, g.Intn(12)
		p := newPlain(7, edge, inner, room)
		var list []*Switch
		for _, size := range sizes {
			list = append(list, newSwitch(t, 7, edge, inner, room, size))
		}
		for step := range 1500 {
			call := someCall(t, g)
			want := call(p)
			for i, s := range list {
				if got := call(s); !reflect.DeepEqual(got, want) {
					t.Fatalf("seed %d, step %d, cache %d: %+v, not %+v", seed, step, sizes[i], got, want)
				}
			}
			if step%50 == 0 {
				kept(t, list[step/50%len(list)])
			}
		}
		for i, s := range list {
			kept(t, s)
			if !reflect.DeepEqual(s.Helds(), p.Helds()) {
				t.Fatalf("seed %d, cache %d: %v, not %v", seed, sizes[i], s.Helds(), p.Helds())
			}
		}
	}
}

// P13.9, P13.10: queues and punts fill while nobody asks for them.
func TestFillsAgainstPlain(t *testing.T) {
	for seed := range int64(10) {
		g := rand.New(rand.NewSource(seed))
		edge, inner := []uint16{1, 2, 65535}, []uint16{3, 4}
		p, s := newPlain(7, edge, inner, 20), newSwitch(t, 7, edge, inner, 20, 4)
		for range 1000 {
			port, b := somePort(g), someFrame(t, g)
			if r := someRule(g); g.Intn(20) == 0 {
				p.Rule(api.RuleAdd, r)
				s.Rule(api.RuleAdd, r)
			}
			if got, want := s.Take(port, b), p.Take(port, b); got != want {
				t.Fatalf("Take(%d, %x): %v, not %v", port, b, got, want)
			}
			if got, want := s.Send(port, b), p.Send(port, b); got != want {
				t.Fatalf("Send(%d, %x): %v, not %v", port, b, got, want)
			}
		}
		kept(t, s)
		if !reflect.DeepEqual(s.Punts(), p.Punts()) || !reflect.DeepEqual(s.Hops(), p.Hops()) || !reflect.DeepEqual(s.Helds(), p.Helds()) {
			t.Fatalf("seed %d: not the same", seed)
		}
		for _, port := range slices.Concat(edge, inner) {
			for n := 0; ; n++ {
				got, ok := s.Next(port)
				want, there := p.Next(port)
				if ok != there || !bytes.Equal(got, want) {
					t.Fatalf("seed %d, port %d, frame %d: %x, not %x", seed, port, n, got, want)
				}
				if !ok {
					break
				}
			}
		}
	}
}

// R1, P13.9: the cache is let go of and filled again, whatever headers come;
// what is kept does not grow with them.
func TestManyHeaders(t *testing.T) {
	s := newSwitch(t, 1, []uint16{1}, nil, 8, 16)
	even := all(2, 2<<32)
	even.Match.Mask[api.Dst] = 1
	change(t, s, api.RuleAdd, even, 1)
	change(t, s, api.RuleAdd, all(1, 1<<32), 1)
	for round := range 3 {
		for n := range uint64(2000) {
			take(t, s, 1, plainFrame(t, 0, n))
			if list := s.Hops(); len(list) != 1 || list[0].Policy != 2-int(n%2) {
				t.Fatalf("round %d: %v", round, list)
			}
		}
	}
	if len(s.rules.found) != 2 || s.rules.seen.Held() != 16 {
		t.Errorf("%d rules, %d headers are kept", len(s.rules.found), s.rules.seen.Held())
	}
	bytes := uint64(3000 * len(plainFrame(t, 0, 0)))
	holds(t, s, has(even, 3000, bytes), has(all(1, 1<<32), 3000, bytes))
}
