package pipeline

import (
	"math"
	"slices"
	"testing"

	"tollbridge/api"
	"tollbridge/frame"
)

// becomes is what the chapter's table tells of a frame that came in.
const (
	isDropped = iota
	isPunted
	toTheTable
)

func wantBecomes(t *testing.T, s *Switch, port uint16, b []byte, want int) {
	t.Helper()
	before := s.Helds()[0].Counts
	take(t, s, port, b)
	nothingOut(t, s)
	var messages []api.Message
	var counted uint64
	hops := s.Hops()
	switch want {
	case isPunted:
		messages = append(messages, in(port, b))
	case toTheTable:
		counted = 1
	}
	punted(t, s, messages...)
	after := s.Helds()[0].Counts
	if after.Packets-before.Packets != counted || after.Bytes-before.Bytes != counted*uint64(len(b)) || uint64(len(hops)) != counted {
		t.Errorf("Take(%d, %x): %d packets, %d bytes, %d hops more, not %d", port, b,
			after.Packets-before.Packets, after.Bytes-before.Bytes, len(hops), counted)
	}
}

// P13.3: the chapter's table: each line, by edge ports and inner ones, with a
// tag and without.
func TestTakeTable(t *testing.T) {
	s := with(t, all(1, 5))
	type row struct {
		kind, tag   uint64
		edge, inner int
	}
	var rows []row
	for _, tag := range []uint64{1, 7, 4095} {
		for _, kind := range []uint64{0x600, 0x800, 0x805, 0x807, kindARP, 0x88b4, 0x88b6, 0xffff} {
			rows = append(rows, row{kind, tag, isDropped, toTheTable})
		}
		rows = append(rows, row{kindProbe, tag, isDropped, isPunted})
	}
	for _, kind := range []uint64{0x600, 0x800, 0x805, 0x807, 0x88b4, 0x88b6, 0xffff} {
		rows = append(rows, row{kind, 0, toTheTable, isDropped})
	}
	rows = append(rows, row{kindARP, 0, isPunted, isDropped}, row{kindProbe, 0, isDropped, isPunted})
	for _, r := range rows {
		for _, op := range []byte{1, 2} {
			b := build(t, api.Header{api.Src: 1, api.Kind: r.kind, api.Vlan: r.tag}, op)
			for _, port := range []uint16{1, 2, 65535} {
				wantBecomes(t, s, port, b, r.edge)
			}
			for _, port := range []uint16{3, 65534} {
				wantBecomes(t, s, port, b, r.inner)
			}
		}
	}
}

// P13.3: bytes that are no frame are taken and dropped, at every port.
func TestTakeNoFrame(t *testing.T) {
	s := with(t, all(1, 5, one(out(1), puntAct())))
	long := make([]byte, 1515)
	long[12] = 6
	ip := build(t, api.Header{api.Kind: 0x800})
	ip[20]++
	arp := arpFrame(t, 0)
	second := slices.Insert(plainFrame(t, 7, 1), 12, 0x81, 0, 0, 7)
	for _, b := range [][]byte{nil, {}, {1}, make([]byte, 13), make([]byte, 14), long, ip, arp[:41], append(arp, 0), second} {
		if _, e := frame.Parse(b); e != api.ErrFrame {
			t.Errorf("%x is a frame", b)
		}
		for _, port := range []uint16{1, 2, 3, 65534, 65535} {
			wantBecomes(t, s, port, b, isDropped)
		}
	}
}

// P13.3: frames of the greatest length, with a tag and without.
func TestTakeLong(t *testing.T) {
	s := with(t, all(1, 5, one(set(api.Vlan, 0), out(2)), one(set(api.Vlan, 9), out(3))))
	body := make([]byte, 1500)
	plain := build(t, api.Header{api.Kind: 0x600}, body...)
	seven := build(t, api.Header{api.Kind: 0x600, api.Vlan: 7}, body...)
	nine := build(t, api.Header{api.Kind: 0x600, api.Vlan: 9}, body...)
	for port, b := range map[uint16][]byte{1: plain, 3: seven} {
		take(t, s, port, b)
		goesOut(t, s, 2, plain)
		goesOut(t, s, 3, nine)
	}
	holds(t, s, has(all(1, 5, one(set(api.Vlan, 0), out(2)), one(set(api.Vlan, 9), out(3))), 2, 1514+1518))
}

// P13.3: a port that is not there, or is down, takes nothing, be the bytes a
// frame or none.
func TestTakeNone(t *testing.T) {
	s := with(t, all(1, 5, one(out(0)), one(puntAct())))
	s.Up(2, false)
	s.Up(3, false)
	s.Punts()
	for _, port := range []uint16{0, 2, 3, 4, 9, 65533} {
		for _, b := range [][]byte{nil, {1}, plainFrame(t, 0, 1), plainFrame(t, 7, 1), arpFrame(t, 0), probeFrame(t, 0)} {
			notTaken(t, s, port, b)
		}
	}
	punted(t, s)
	hopped(t, s)
	nothingOut(t, s)
	holds(t, s, has(all(1, 5, one(out(0)), one(puntAct())), 0, 0))
	s.Up(2, true)
	s.Up(3, true)
	s.Punts()
	take(t, s, 2, plainFrame(t, 0, 1))
	goesOut(t, s, 2, plainFrame(t, 0, 1))
	take(t, s, 3, plainFrame(t, 7, 1))
	goesOut(t, s, 3, plainFrame(t, 7, 1))
}

// P13.3: rules see the port and the switch at which a frame came in, and its
// tag.
func TestTakeHeader(t *testing.T) {
	s := newSwitch(t, 40000, []uint16{1, 2}, []uint16{3}, 8, 4)
	rule := func(rank int, h api.Header, port uint64) api.Rule {
		mask := api.Header{api.Port: 65535, api.Switch: 65535, api.Vlan: 4095}
		return api.Rule{Rank: rank, Match: api.Match{Value: h, Mask: mask},
			Copies: [][]api.Action{one(set(api.Vlan, 0), out(port))}, Cookie: uint64(rank) << 32}
	}
	for i, h := range []api.Header{
		{api.Port: 1, api.Switch: 40000}, {api.Port: 2, api.Switch: 40000}, {api.Port: 3, api.Switch: 40000, api.Vlan: 7},
		{api.Port: 0, api.Switch: 40000}, {api.Port: 1, api.Switch: 0}, {api.Port: 3, api.Switch: 40000},
	} {
		change(t, s, api.RuleAdd, rule(i+1, h, uint64(i%2+1)), 1)
	}
	h := api.Header{api.Src: 1, api.Dst: 5, api.Kind: 0x600, api.Switch: 40000}
	take(t, s, 1, plainFrame(t, 0, 5))
	goesOut(t, s, 1, plainFrame(t, 0, 5))
	take(t, s, 2, plainFrame(t, 0, 5))
	goesOut(t, s, 2, plainFrame(t, 0, 5))
	take(t, s, 3, plainFrame(t, 7, 5))
	goesOut(t, s, 1, plainFrame(t, 0, 5))
	take(t, s, 3, plainFrame(t, 8, 5))
	goesOut(t, s, 1)
	hopped(t, s, hop(1, at(h, 1), at(h, 1)), hop(2, at(h, 2), at(h, 2)), hop(3, at(h, 3), at(h, 1)), hop(0, at(h, 3)))
}

// P13.3: what is sent goes in order into each port's queue, with the frame's
// Body.
func TestSent(t *testing.T) {
	s := with(t, all(1, 5, one(out(0), set(api.Dst, 8), out(2), out(1)), one(set(api.Vlan, 7), out(3), set(api.Vlan, 8), out(3), out(65534)), one(out(2))))
	take(t, s, 1, plainFrame(t, 0, 5))
	take(t, s, 1, plainFrame(t, 0, 6))
	goesOut(t, s, 1, plainFrame(t, 0, 5), plainFrame(t, 0, 8), plainFrame(t, 0, 6), plainFrame(t, 0, 8))
	goesOut(t, s, 2, plainFrame(t, 0, 8), plainFrame(t, 0, 5), plainFrame(t, 0, 8), plainFrame(t, 0, 6))
	goesOut(t, s, 3, plainFrame(t, 7, 5), plainFrame(t, 8, 5), plainFrame(t, 7, 6), plainFrame(t, 8, 6))
	goesOut(t, s, 65534, plainFrame(t, 8, 5), plainFrame(t, 8, 6))
	goesOut(t, s, 65535)
}

// P13.3, P13.10: nothing goes out at an edge port with a tag, nor at an inner
// one without.
func TestSentByTag(t *testing.T) {
	s := with(t, all(1, 5, one(out(1), out(3), out(65535), out(65534)), one(set(api.Vlan, 4095), out(2), out(3)), one(set(api.Vlan, 0), out(2), out(3))))
	take(t, s, 1, plainFrame(t, 0, 5))
	goesOut(t, s, 1, plainFrame(t, 0, 5))
	goesOut(t, s, 65535, plainFrame(t, 0, 5))
	goesOut(t, s, 2, plainFrame(t, 0, 5))
	goesOut(t, s, 3, plainFrame(t, 4095, 5))
	goesOut(t, s, 65534)
	take(t, s, 3, plainFrame(t, 6, 5))
	goesOut(t, s, 1)
	goesOut(t, s, 65535)
	goesOut(t, s, 2, plainFrame(t, 0, 5))
	goesOut(t, s, 3, plainFrame(t, 6, 5), plainFrame(t, 4095, 5))
	goesOut(t, s, 65534, plainFrame(t, 6, 5))
}

// P13.3: an ARP frame with a tag goes to the table, and out as its rule says.
func TestSentARP(t *testing.T) {
	s := with(t, all(1, 5, one(out(65534), set(api.Vlan, 0), out(1))))
	take(t, s, 3, arpFrame(t, 6))
	goesOut(t, s, 65534, arpFrame(t, 6))
	goesOut(t, s, 1, arpFrame(t, 0))
	punted(t, s)
}

// P13.3: what is no header any more, whose port is none, or is down, is not
// sent; what stands beside it is.
func TestNotSent(t *testing.T) {
	s := with(t, all(1, 5, one(out(1), set(api.DPort, 80), out(1)), one(set(api.From, 1), out(1)), one(out(9), out(2), out(65533)), one(out(65535))))
	s.Up(2, false)
	take(t, s, 1, plainFrame(t, 0, 5))
	goesOut(t, s, 1, plainFrame(t, 0, 5))
	goesOut(t, s, 65535, plainFrame(t, 0, 5))
	goesOut(t, s, 2)
	s.Up(2, true)
	goesOut(t, s, 2)
	udp := api.Header{api.Kind: 0x800, api.Proto: 17, api.SPort: 4, api.DPort: 53}
	take(t, s, 1, build(t, udp, 9, 9))
	web, from := udp, udp
	web[api.DPort], from[api.From] = 80, 1
	goesOut(t, s, 1, build(t, udp, 9, 9), build(t, web, 9, 9), build(t, from, 9, 9))
	goesOut(t, s, 2, build(t, udp, 9, 9))
}

// P13.3: sums and lengths of what is sent are those of the new header.
func TestSentAnew(t *testing.T) {
	h := api.Header{api.Src: 1, api.Dst: 2, api.Kind: 0x800, api.From: 3, api.To: 4, api.Proto: 6, api.SPort: 5, api.DPort: 6}
	ends := api.Header{api.Src: 1<<48 - 1, api.Dst: 1<<48 - 1, api.Kind: 0x800, api.Vlan: 4095, api.From: 1<<32 - 1, api.To: 1<<32 - 1, api.Proto: 6, api.SPort: 65535, api.DPort: 65535}
	var list []api.Action
	for _, field := range []int8{api.Src, api.Dst, api.Vlan, api.From, api.To, api.SPort, api.DPort} {
		list = append(list, set(field, ends[field]))
	}
	s := with(t, all(math.MaxInt, math.MaxUint64, append(list, out(65534))))
	take(t, s, 65535, build(t, h, 1, 2, 3))
	goesOut(t, s, 65534, build(t, ends, 1, 2, 3))
	in, sent := at(h, 65535), at(ends, 65534)
	in[api.Switch], sent[api.Switch], sent[api.Vlan] = 1, 1, 0
	hopped(t, s, hop(1<<32-1, in, sent))
}

// P13.3: a punt of a rule hands on the frame as it came, by the port by which
// it came, once, whatever else is done.
func TestRulePunts(t *testing.T) {
	s := with(t, all(1, 5, one(set(api.Dst, 9), puntAct(), out(2), puntAct()), one(puntAct())))
	take(t, s, 1, plainFrame(t, 0, 5))
	take(t, s, 3, plainFrame(t, 6, 5))
	punted(t, s, in(1, plainFrame(t, 0, 5)), in(3, plainFrame(t, 6, 5)))
	goesOut(t, s, 2, plainFrame(t, 0, 9))
}

// P13.8: a hop of every frame that went to the table, without a rule too.
func TestHops(t *testing.T) {
	s := with(t, to(1, 1, 1<<32-1, one(out(2))), to(2, 1, 1<<32, one(puntAct())), to(3, 1, 9<<32|77, one(out(2), out(1))))
	h := api.Header{api.Src: 1, api.Kind: 0x600, api.Port: 1, api.Switch: 1}
	dst := func(h api.Header, n uint64) api.Header {
		h[api.Dst] = n
		return h
	}
	for n := range uint64(5) {
		take(t, s, 1, plainFrame(t, 0, n))
		take(t, s, 1, plainFrame(t, 7, n))
		take(t, s, 1, probeFrame(t, 0))
		take(t, s, 1, arpFrame(t, 0))
		take(t, s, 3, plainFrame(t, 0, n))
		take(t, s, 1, []byte{1})
	}
	three := dst(h, 3)
	hopped(t, s, hop(0, h), hop(0, dst(h, 1), at(dst(h, 1), 2)), hop(1, dst(h, 2)), hop(9, three, at(three, 2), three), hop(0, dst(h, 4)))
	take(t, s, 3, plainFrame(t, 7, 3))
	hopped(t, s, hop(9, at(three, 3), at(three, 2), three))
}

// P13.8: Out is what the rule tells, tags aside, each once, as it came first;
// what is dropped for its tag, its port or its queue stands there all the same,
// what is no header, or has no port of the switch, does not.
func TestHopOut(t *testing.T) {
	s := with(t, all(1, 5<<32,
		one(out(2), set(api.Vlan, 7), out(3), out(2), set(api.Vlan, 8), out(3)),
		one(out(65534), out(9), set(api.DPort, 1), out(1)),
		one(out(1), set(api.Dst, 8), out(2), out(2)), one(out(2))))
	s.Up(1, false)
	h := api.Header{api.Src: 1, api.Dst: 5, api.Kind: 0x600, api.Port: 65535, api.Switch: 1}
	eight := at(h, 2)
	eight[api.Dst] = 8
	for n := range api.MaxQueue {
		take(t, s, 65535, plainFrame(t, 0, 5))
		hopped(t, s, hop(5, h, at(h, 2), at(h, 3), at(h, 65534), at(h, 1), eight))
		if n == 0 {
			goesOut(t, s, 1)
			goesOut(t, s, 65534)
		}
	}
	if n := len(s.ports[2].queue); n != api.MaxQueue {
		t.Errorf("%d frames in the queue", n)
	}
}

// P13.8, P13.7: 2^32 and more in a cookie: the version is what stands from bit
// 32 on.
func TestHopPolicy(t *testing.T) {
	for cookie, policy := range map[uint64]int{
		0: 0, 1: 0, 1<<32 - 1: 0, 1 << 32: 1, 1<<32 + 1: 1, 4094<<32 | 1<<31: 4094, 1 << 63: 1 << 31, math.MaxUint64: 1<<32 - 1,
	} {
		s := with(t, all(1, cookie))
		take(t, s, 1, plainFrame(t, 0, 5))
		if list := s.Hops(); len(list) != 1 || list[0].Policy != policy || list[0].Step != 0 || len(list[0].Out) != 0 {
			t.Errorf("cookie %x: %v, not %d", cookie, list, policy)
		}
	}
}

// P13.3: as many copies and actions as there may be.
func TestSentMany(t *testing.T) {
	var copies [][]api.Action
	for i := range 40 {
		var list []api.Action
		for k := range 8 {
			list = append(list, set(api.Dst, uint64(i*8+k)), out(uint64(k%2+1)))
		}
		copies = append(copies, list)
	}
	s := with(t, all(1, 5, copies...))
	take(t, s, 1, plainFrame(t, 0, 5))
	if list := s.Hops(); len(list) != 1 || len(list[0].Out) != 320 {
		t.Errorf("%v", list)
	}
	var ones, twos [][]byte
	for n := range uint64(64) {
		ones = append(ones, plainFrame(t, 0, 2*n))
		twos = append(twos, plainFrame(t, 0, 2*n+1))
	}
	goesOut(t, s, 1, ones...)
	goesOut(t, s, 2, twos...)
}
