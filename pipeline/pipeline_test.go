package pipeline

import (
	"bytes"
	"math"
	"reflect"
	"slices"
	"testing"

	"tollbridge/actions"
	"tollbridge/api"
	"tollbridge/flows"
	"tollbridge/frame"
)

// made is the chapter's switch: number 1, edge ports 1 and 2, inner port 3; and
// the ports at the ends of their numbers: edge 65535, inner 65534.
func made(t *testing.T) *Switch {
	t.Helper()
	return newSwitch(t, 1, []uint16{1, 2, 65535}, []uint16{3, 65534}, 100, 4)
}

func newSwitch(t *testing.T, id uint16, edge, inner []uint16, room, size int) *Switch {
	t.Helper()
	s, e := New(id, edge, inner, room, size)
	if e != api.OK || s == nil {
		t.Fatalf("New(%d, %v, %v, %d, %d): %v", id, edge, inner, room, size, e)
	}
	return s
}

func refused(t *testing.T, id uint16, edge, inner []uint16, want api.Errno) {
	t.Helper()
	if s, e := New(id, edge, inner, 8, 8); s != nil || e != want {
		t.Errorf("New(%d, %v, %v): %v, %v, not %v", id, edge, inner, s, e, want)
	}
}

func build(t *testing.T, h api.Header, body ...byte) []byte {
	t.Helper()
	b, e := frame.Build(api.Packet{H: h, Body: body})
	if e != api.OK {
		t.Fatalf("Build(%v, %v): %v", h, body, e)
	}
	return b
}

// plainFrame is data, of that tag (0: none), told from others by its number.
func plainFrame(t *testing.T, tag uint64, n uint64) []byte {
	t.Helper()
	return build(t, api.Header{api.Src: 1, api.Dst: n, api.Kind: 0x600, api.Vlan: tag}, 1, 2, 3)
}

func arpFrame(t *testing.T, tag uint64) []byte {
	t.Helper()
	return build(t, api.Header{api.Src: 1, api.Kind: kindARP, api.Vlan: tag, api.From: 5, api.To: 6}, 1)
}

func probeFrame(t *testing.T, tag uint64) []byte {
	t.Helper()
	return build(t, api.Header{api.Src: 1, api.Kind: kindProbe, api.Vlan: tag}, 7)
}

func set(field int8, n uint64) api.Action {
	return api.Action{Do: api.ActSet, Field: field, N: n}
}

func out(n uint64) api.Action {
	return api.Action{Do: api.ActOut, N: n}
}

func puntAct() api.Action {
	return api.Action{Do: api.ActPunt}
}

func one(list ...api.Action) []api.Action {
	return list
}

// all hits everything.
func all(rank int, cookie uint64, copies ...[]api.Action) api.Rule {
	return api.Rule{Rank: rank, Cookie: cookie, Copies: copies}
}

// to hits one Dst.
func to(dst uint64, rank int, cookie uint64, copies ...[]api.Action) api.Rule {
	r := all(rank, cookie, copies...)
	r.Match.Value[api.Dst], r.Match.Mask[api.Dst] = dst, 1<<48-1
	return r
}

// noMatch is a rule whose match is none.
func noMatch() api.Rule {
	return api.Rule{Match: api.Match{Value: api.Header{api.Dst: 1}}}
}

func change(t *testing.T, s *Switch, what int8, r api.Rule, want int) {
	t.Helper()
	if n, e := s.Rule(what, r); n != want || e != api.OK {
		t.Errorf("Rule(%d, %v): %d, %v, not %d", what, r, n, e, want)
	}
}

func notChanged(t *testing.T, s *Switch, what int8, r api.Rule, want api.Errno) {
	t.Helper()
	before := s.Helds()
	if n, e := s.Rule(what, r); n != 0 || e != want {
		t.Errorf("Rule(%d, %v): %d, %v, not %v", what, r, n, e, want)
	}
	if after := s.Helds(); !reflect.DeepEqual(before, after) {
		t.Errorf("Rule(%d, %v) was refused: %v, not %v", what, r, after, before)
	}
}

func with(t *testing.T, rules ...api.Rule) *Switch {
	t.Helper()
	s := made(t)
	for _, r := range rules {
		change(t, s, api.RuleAdd, r, 1)
	}
	return s
}

func take(t *testing.T, s *Switch, port uint16, b []byte) {
	t.Helper()
	if e := s.Take(port, b); e != api.OK {
		t.Errorf("Take(%d, %x): %v", port, b, e)
	}
}

func notTaken(t *testing.T, s *Switch, port uint16, b []byte) {
	t.Helper()
	if e := s.Take(port, b); e != api.ErrNone {
		t.Errorf("Take(%d, %x): %v, not ErrNone", port, b, e)
	}
}

// goesOut: the frames that stand in the port's queue, all of them, which are
// there no more then.
func goesOut(t *testing.T, s *Switch, port uint16, want ...[]byte) {
	t.Helper()
	for i, w := range want {
		if b, ok := s.Next(port); !ok || !bytes.Equal(b, w) {
			t.Errorf("Next(%d), frame %d: %x, %t, not %x", port, i, b, ok, w)
		}
	}
	if b, ok := s.Next(port); ok || len(b) != 0 {
		t.Errorf("Next(%d): %x, %t, not none", port, b, ok)
	}
}

func nothingOut(t *testing.T, s *Switch) {
	t.Helper()
	for _, port := range []uint16{1, 2, 3, 65534, 65535} {
		goesOut(t, s, port)
	}
}

func in(port uint16, b []byte) api.Message {
	return api.Message{Type: api.MsgIn, Port: port, Frame: b}
}

func portIs(port uint16, up bool) api.Message {
	return api.Message{Type: api.MsgPort, Port: port, Up: up}
}

func punted(t *testing.T, s *Switch, want ...api.Message) {
	t.Helper()
	if list := s.Punts(); len(list) != len(want) || len(want) > 0 && !reflect.DeepEqual(list, want) {
		t.Errorf("Punts: %v, not %v", list, want)
	}
	if list := s.Punts(); len(list) != 0 {
		t.Errorf("Punts again: %v", list)
	}
}

func hop(policy int, in api.Header, out ...api.Header) api.Hop {
	return api.Hop{Policy: policy, In: in, Out: out}
}

func hopped(t *testing.T, s *Switch, want ...api.Hop) {
	t.Helper()
	if list := s.Hops(); !sameHops(list, want) {
		t.Errorf("Hops: %v, not %v", list, want)
	}
	if list := s.Hops(); len(list) != 0 {
		t.Errorf("Hops again: %v", list)
	}
}

func sameHops(a, b []api.Hop) bool {
	return slices.EqualFunc(a, b, func(x, y api.Hop) bool {
		return x.Step == y.Step && x.Policy == y.Policy && x.In == y.In && slices.Equal(x.Out, y.Out)
	})
}

func has(r api.Rule, packets, bytes uint64) api.Held {
	return api.Held{Rule: r, Counts: api.Counts{Packets: packets, Bytes: bytes}}
}

func holds(t *testing.T, s *Switch, want ...api.Held) {
	t.Helper()
	if list := s.Helds(); !sameHelds(list, want) {
		t.Errorf("Helds: %v, not %v", list, want)
	}
}

func sameHelds(a, b []api.Held) bool {
	return slices.EqualFunc(a, b, func(x, y api.Held) bool {
		return x.Counts == y.Counts && x.Rule.Rank == y.Rule.Rank && x.Rule.Match == y.Rule.Match &&
			x.Rule.Cookie == y.Rule.Cookie && actions.Same(x.Rule.Copies, y.Rule.Copies)
	})
}

// The chapter's examples.
func TestExamples(t *testing.T) {
	s := newSwitch(t, 1, []uint16{1, 2}, []uint16{3}, 8, 4)
	r := api.Rule{Rank: 1, Match: api.Match{Mask: api.Header{api.Vlan: 4095}}, Cookie: 7 << 32,
		Copies: [][]api.Action{one(out(2)), one(set(api.Vlan, 7), out(3))}}
	change(t, s, api.RuleAdd, r, 1)
	plain, tagged := plainFrame(t, 0, 9), plainFrame(t, 7, 9)
	take(t, s, 1, plain)
	goesOut(t, s, 2, plain)
	goesOut(t, s, 3, tagged)
	take(t, s, 1, tagged)
	take(t, s, 3, plain)
	notTaken(t, s, 9, plain)
	for _, port := range []uint16{1, 2, 3} {
		goesOut(t, s, port)
	}
	h := api.Header{api.Src: 1, api.Dst: 9, api.Kind: 0x600, api.Port: 1, api.Switch: 1}
	hopped(t, s, hop(7, h, at(h, 2), at(h, 3)))
	take(t, s, 1, arpFrame(t, 0))
	punted(t, s, in(1, arpFrame(t, 0)))
	holds(t, s, has(r, 1, uint64(len(plain))))
}

// P13.1: what makes no switch, and which of several errors is told.
func TestNewRefused(t *testing.T) {
	refused(t, 0, []uint16{1}, []uint16{2}, api.ErrArg)
	refused(t, 0, nil, nil, api.ErrArg)
	refused(t, 1, []uint16{0}, nil, api.ErrArg)
	refused(t, 1, nil, []uint16{0}, api.ErrArg)
	refused(t, 1, []uint16{1, 0, 2}, []uint16{3}, api.ErrArg)
	refused(t, 1, []uint16{1}, []uint16{2, 3, 0}, api.ErrArg)
	refused(t, 1, []uint16{1, 1}, nil, api.ErrThere)
	refused(t, 1, nil, []uint16{1, 2, 1}, api.ErrThere)
	refused(t, 1, []uint16{1, 2}, []uint16{3, 2}, api.ErrThere)
	refused(t, 65535, []uint16{65535}, []uint16{65535}, api.ErrThere)

	refused(t, 0, []uint16{1, 1}, nil, api.ErrArg)
	refused(t, 1, []uint16{1, 1}, []uint16{0}, api.ErrArg)
	refused(t, 1, []uint16{0, 0}, nil, api.ErrArg)
	refused(t, 1, slices.Repeat([]uint16{1}, 17), nil, api.ErrArg)
}

func upTo(from, to uint16) []uint16 {
	var list []uint16
	for p := from; p <= to; p++ {
		list = append(list, p)
	}
	return list
}

// P13.1: 16 ports of both kinds together, and one past it.
func TestNewPorts(t *testing.T) {
	for edges := range uint16(18) {
		refused(t, 1, upTo(1, edges), upTo(edges+1, 17), api.ErrArg)
		if edges > 16 {
			continue
		}
		s := newSwitch(t, 1, upTo(1, edges), upTo(edges+1, 16), 8, 8)
		for p := range uint16(18) {
			want := api.ErrNone
			switch {
			case p >= 1 && p <= edges:
				want = api.OK
			case p > edges && p <= 16:
				want = api.ErrFrame
			}
			if e := s.Send(p, plainFrame(t, 0, 1)); e != want {
				t.Errorf("%d edge ports: Send(%d, untagged): %v, not %v", edges, p, e, want)
			}
		}
		punted(t, s)
		hopped(t, s)
		holds(t, s)
	}
	refused(t, 1, make([]uint16, 1<<16), make([]uint16, 1<<16), api.ErrArg)
}

// P13.1: a switch without ports is one; numbers at the ends of their width.
func TestNewEnds(t *testing.T) {
	s := newSwitch(t, 1, nil, []uint16{}, 8, 8)
	notTaken(t, s, 0, plainFrame(t, 0, 1))
	notTaken(t, s, 1, plainFrame(t, 0, 1))
	s = newSwitch(t, 65535, []uint16{65535}, []uint16{1}, 8, 8)
	take(t, s, 65535, plainFrame(t, 0, 1))
	hopped(t, s, hop(0, api.Header{api.Src: 1, api.Dst: 1, api.Kind: 0x600, api.Port: 65535, api.Switch: 65535}))
}

// P13.1: room and cache are flows.New's and cache.New's, any numbers.
func TestNewRoom(t *testing.T) {
	for _, x := range []struct{ room, rules int }{
		{math.MinInt, 0}, {-1, 0}, {0, 0}, {1, 1}, {2, 2}, {1023, 1023}, {1024, 1024}, {1025, 1024}, {math.MaxInt, 1024},
	} {
		s := newSwitch(t, 1, []uint16{1}, nil, x.room, 4)
		for n := range x.rules {
			change(t, s, api.RuleAdd, to(uint64(n), 1, 0), 1)
		}
		notChanged(t, s, api.RuleAdd, to(5000, 1, 0), api.ErrFull)
		if x.rules > 0 {
			change(t, s, api.RuleAdd, to(0, 1, 0), 1)
		}
	}
	for _, x := range []struct{ size, entries int }{
		{math.MinInt, 0}, {-1, 0}, {0, 0}, {1, 1}, {2, 2}, {1024, 1024}, {1025, 1024}, {math.MaxInt, 1024},
	} {
		s := newSwitch(t, 1, []uint16{1}, nil, 4, x.size)
		change(t, s, api.RuleAdd, all(1, 0), 1)
		for n := range 1100 {
			take(t, s, 1, plainFrame(t, 0, uint64(n)))
		}
		if n := s.rules.seen.Held(); n != x.entries {
			t.Errorf("a cache of %d: %d entries, not %d", x.size, n, x.entries)
		}
	}
}

// P13.2: rules are added, changed and deleted as flows.Do has it.
func TestRule(t *testing.T) {
	a, b := to(1, 1, 7, one(out(1))), to(2, 1, 8, one(out(2)))
	s := with(t, a, b)
	holds(t, s, has(a, 0, 0), has(b, 0, 0))
	change(t, s, api.RuleModify, all(5, 8, one(puntAct())), 2)
	a.Copies, a.Cookie = [][]api.Action{one(puntAct())}, 8
	b.Copies = a.Copies
	holds(t, s, has(a, 0, 0), has(b, 0, 0), has(all(0, 7), 0, 0))
	change(t, s, api.RuleStrict, to(1, 2, 0), 0)
	change(t, s, api.RuleStrict, to(1, 1, 0), 1)
	change(t, s, api.RuleDelete, all(9, 9), 1)
	change(t, s, api.RuleDelete, all(9, 9), 0)
	holds(t, s, has(all(0, 7), 0, 0), has(all(0, 8), 0, 0))
}

// badActions are rules that actions.Check refuses by ErrArg.
func badActions() []api.Rule {
	return []api.Rule{
		all(1, 1, one(set(api.Port, 1))),
		all(1, 1, one(set(api.Switch, 1))),
		all(1, 1, one(set(api.Kind, 0x800))),
		all(1, 1, one(set(api.Proto, 6))),
		all(1, 1, one(set(api.Vlan, 4096))),
		all(1, 1, one(set(-1, 1))),
		all(1, 1, one(set(api.Fields, 1))),
		all(1, 1, one(out(65536))),
		all(1, 1, one(out(math.MaxUint64))),
		all(1, 1, one(api.Action{Do: 3})),
		all(1, 1, one(api.Action{Do: api.ActPunt, N: 1})),
		all(1, 1, make([][]api.Action, 65)...),
		all(1, 1, make([]api.Action, 17)),
	}
}

// P13.2: an Add and a Modify of what actions.Check refuses; a Delete and a
// Strict do not look at Copies.
func TestRuleChecksActions(t *testing.T) {
	for _, r := range badActions() {
		s := with(t, all(1, 5, one(out(2))))
		notChanged(t, s, api.RuleAdd, r, api.ErrArg)
		notChanged(t, s, api.RuleModify, r, api.ErrArg)
		change(t, s, api.RuleStrict, r, 1)
		change(t, s, api.RuleAdd, all(1, 5, one(out(2))), 1)
		change(t, s, api.RuleDelete, r, 1)
	}
	for _, copies := range [][][]api.Action{
		make([][]api.Action, 64), {slices.Repeat(one(out(1)), 16)}, {one(out(65535), set(api.Vlan, 4095), puntAct())}, nil,
	} {
		s := with(t, all(1, 5, copies...))
		change(t, s, api.RuleModify, all(1, 5, copies...), 1)
	}
}

// P13.2, R5: which of several errors is told.
func TestRuleErrors(t *testing.T) {
	full := newSwitch(t, 1, []uint16{1}, nil, 0, 4)
	bad := noMatch()
	bad.Copies = [][]api.Action{one(out(65536))}
	for what := range int8(4) {
		notChanged(t, full, what, noMatch(), api.ErrMatch)
		notChanged(t, full, what, bad, api.ErrMatch)
	}
	notChanged(t, full, api.RuleAdd, all(1, 1, one(out(65536))), api.ErrArg)
	notChanged(t, full, api.RuleAdd, all(1, 1), api.ErrFull)
	change(t, full, api.RuleModify, all(1, 1), 0)
	for _, what := range []int8{math.MinInt8, -1, 4, 5, math.MaxInt8} {
		notChanged(t, full, what, all(1, 1), api.ErrArg)
		notChanged(t, full, what, noMatch(), api.ErrArg)
	}
}

// P13.2: every call that has no error turns the cache, one that changed no rule
// too; one that is refused does not.
func TestRuleTurns(t *testing.T) {
	warm := func() *Switch {
		s := with(t, all(1, 5, one(out(2))))
		take(t, s, 1, plainFrame(t, 0, 1))
		take(t, s, 1, plainFrame(t, 0, 2))
		return s
	}
	for what := range int8(4) {
		for _, r := range []api.Rule{all(1, 5), to(77, 3, 3)} {
			s := warm()
			if n := s.rules.seen.Held(); n != 2 {
				t.Errorf("%d entries, not 2", n)
			}
			notChanged(t, s, what, noMatch(), api.ErrMatch)
			notChanged(t, s, 4, r, api.ErrArg)
			if n := s.rules.seen.Held(); n != 2 {
				t.Errorf("Rule(%d, ..) was refused: %d entries, not 2", what, n)
			}
			if _, e := s.Rule(what, r); e != api.OK {
				t.Errorf("Rule(%d, ..): %v", what, e)
			}
			if n := s.rules.seen.Held(); n != 0 {
				t.Errorf("Rule(%d, ..): %d entries, not 0", what, n)
			}
		}
	}
}

// P13.2: a header that the cache knows meets what its rules are now, whatever
// was changed.
func TestRuleIsMetAtOnce(t *testing.T) {
	s := with(t, all(1, 1<<32, one(out(2))))
	b := plainFrame(t, 0, 1)
	h := api.Header{api.Src: 1, api.Dst: 1, api.Kind: 0x600, api.Port: 1, api.Switch: 1}
	meets := func(policy int, ports ...uint64) {
		t.Helper()
		for range 3 {
			take(t, s, 1, b)
			var want []api.Header
			for _, p := range ports {
				want = append(want, at(h, p))
				goesOut(t, s, uint16(p), b)
			}
			nothingOut(t, s)
			hopped(t, s, hop(policy, h, want...))
		}
	}
	meets(1, 2)
	change(t, s, api.RuleAdd, to(1, 2, 2<<32, one(out(1)), one(out(2))), 1)
	meets(2, 1, 2)
	change(t, s, api.RuleAdd, to(1, 2, 3<<32, one(out(65535))), 1)
	meets(3, 65535)
	change(t, s, api.RuleModify, to(1, 0, 4<<32, one(out(1))), 1)
	meets(4, 1)
	change(t, s, api.RuleStrict, to(1, 2, 0), 1)
	meets(1, 2)
	notChanged(t, s, api.RuleModify, all(1, 9<<32, one(out(65536))), api.ErrArg)
	meets(1, 2)
	change(t, s, api.RuleDelete, all(0, 0), 1)
	meets(0)
	change(t, s, api.RuleAdd, all(1, 5<<32), 1)
	meets(5)
}

// P13.7: the rules held, then what is gone, each as flows tells them.
func TestHelds(t *testing.T) {
	rules := []api.Rule{to(1, 1, 9, one(out(2))), to(2, 2, 3, one(out(2))), to(3, 2, 1), to(4, -1, 2)}
	s, table := with(t, rules...), flows.New(100)
	same := func() {
		t.Helper()
		holds(t, s, slices.Concat(table.Helds(), table.Gone())...)
	}
	for _, r := range rules {
		table.Do(api.RuleAdd, r)
	}
	same()
	for n := range uint64(6) {
		for range n + 1 {
			b := plainFrame(t, 0, n)
			take(t, s, 1, b)
			table.Find(api.Header{api.Dst: n}, len(b))
		}
	}
	same()
	for _, r := range []api.Rule{to(3, 0, 0), to(1, 0, 0), to(4, 0, 0)} {
		change(t, s, api.RuleDelete, r, 1)
		table.Do(api.RuleDelete, r)
		same()
	}
	if list := s.Helds(); len(list) != 4 || list[0].Rule.Cookie != 3 || list[1].Rule.Cookie != 1 || list[3].Rule.Cookie != 9 {
		t.Errorf("%v", list)
	}
	change(t, s, api.RuleDelete, all(0, 0), 1)
	if list := s.Helds(); len(list) != 4 || list[0].Rule.Cookie != 1 || list[0].Counts.Packets != 4 {
		t.Errorf("%v", list)
	}
}

// R1: what a nil switch answers.
func TestNil(t *testing.T) {
	var s *Switch
	for what := range int8(5) {
		for _, r := range []api.Rule{all(1, 1), noMatch(), badActions()[0]} {
			if n, e := s.Rule(what, r); n != 0 || e != api.ErrNil {
				t.Errorf("Rule: %d, %v", n, e)
			}
		}
	}
	for _, b := range [][]byte{nil, plainFrame(t, 0, 1)} {
		if e := s.Take(1, b); e != api.ErrNil {
			t.Errorf("Take: %v", e)
		}
		if e := s.Send(1, b); e != api.ErrNil {
			t.Errorf("Send: %v", e)
		}
	}
	if e := s.Up(1, true); e != api.ErrNil {
		t.Errorf("Up: %v", e)
	}
	if b, ok := s.Next(1); ok || len(b) != 0 {
		t.Errorf("Next: %v, %t", b, ok)
	}
	if len(s.Punts())+len(s.Helds())+len(s.Hops()) != 0 {
		t.Error("Punts, Helds, Hops")
	}
}

func at(h api.Header, port uint64) api.Header {
	h[api.Port] = port
	return h
}
