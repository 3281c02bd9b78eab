package agent

import (
	"bytes"
	"math"
	"reflect"
	"slices"
	"testing"

	"tollbridge/api"
	"tollbridge/frame"
	"tollbridge/message"
	"tollbridge/pipeline"
)

// made is the chapter's agent: switch 7, edge ports 1 and 2, inner port 3.
func made(t *testing.T) *Agent {
	t.Helper()
	return newAgent(t, 7, []uint16{1, 2}, []uint16{3}, 1024, 4)
}

func newAgent(t *testing.T, id uint16, edge, inner []uint16, room, size int) *Agent {
	t.Helper()
	a, e := New(id, edge, inner, room, size)
	if e != api.OK || a == nil {
		t.Fatalf("New(%d, %v, %v, %d, %d): %v", id, edge, inner, room, size, e)
	}
	return a
}

func build(t *testing.T, h api.Header, body ...byte) []byte {
	t.Helper()
	b, e := frame.Build(api.Packet{H: h, Body: body})
	if e != api.OK {
		t.Fatalf("Build(%v, %v): %v", h, body, e)
	}
	return b
}

// data is a frame of that tag (0: none), told from others by its number.
func data(t *testing.T, tag, n uint64) []byte {
	t.Helper()
	return build(t, api.Header{api.Src: 1, api.Dst: n, api.Kind: 0x600, api.Vlan: tag}, 1, 2, 3)
}

// arpFrame is told from others by its number.
func arpFrame(t *testing.T, n uint64) []byte {
	t.Helper()
	return build(t, api.Header{api.Src: 1, api.Kind: 0x806, api.From: n, api.To: 6}, 1)
}

func probeFrame(t *testing.T) []byte {
	t.Helper()
	return build(t, api.Header{api.Src: 1, api.Kind: 0x88b5}, 7)
}

func out(n uint64) api.Action {
	return api.Action{Do: api.ActOut, N: n}
}

func punt() api.Action {
	return api.Action{Do: api.ActPunt}
}

func one(list ...api.Action) []api.Action {
	return list
}

// all hits everything.
func all(rank int, cookie uint64, copies ...[]api.Action) api.Rule {
	return api.Rule{Rank: rank, Cookie: cookie, Copies: copies}
}

// to hits one Dst.
func to(dst uint64, rank int, cookie uint64, copies ...[]api.Action) api.Rule {
	r := all(rank, cookie, copies...)
	r.Match.Value[api.Dst], r.Match.Mask[api.Dst] = dst, 1<<48-1
	return r
}

func has(r api.Rule, packets, bytes uint64) api.Held {
	return api.Held{Rule: r, Counts: api.Counts{Packets: packets, Bytes: bytes}}
}

// lost is what is gone of a Cookie.
func lost(cookie, packets, bytes uint64) api.Held {
	return has(api.Rule{Cookie: cookie}, packets, bytes)
}

func ask(kind int8, id uint32) api.Message {
	return api.Message{Type: kind, Id: id}
}

func ruleMessage(id uint32, do int8, r api.Rule) api.Message {
	return api.Message{Type: api.MsgRule, Id: id, Do: do, Rule: r}
}

func outMessage(id uint32, port uint16, b []byte) api.Message {
	return api.Message{Type: api.MsgOut, Id: id, Port: port, Frame: b}
}

func refusal(id uint32, code api.Errno) api.Message {
	return api.Message{Type: api.MsgError, Id: id, Code: uint16(code)}
}

func features(id uint32, sw uint16, ports, edge []uint16) api.Message {
	return api.Message{Type: api.MsgFeatures, Id: id, Switch: sw, Ports: ports, Edge: edge}
}

func statedBy(id uint32, more uint16, helds ...api.Held) api.Message {
	return api.Message{Type: api.MsgStated, Id: id, Port: more, Helds: helds}
}

func in(port uint16, b []byte) api.Message {
	return api.Message{Type: api.MsgIn, Port: port, Frame: b}
}

func portIs(port uint16, up bool) api.Message {
	return api.Message{Type: api.MsgPort, Port: port, Up: up}
}

func hello() api.Message {
	return api.Message{Type: api.MsgHello}
}

// answers asks for every answer, whole, and that each is a message.
func answers(t *testing.T, a *Agent, m api.Message, want ...api.Message) {
	t.Helper()
	list := a.Do(m)
	if !sameMessages(list, want) {
		t.Errorf("Do(%v): %v, not %v", m, list, want)
	}
	areMessages(t, list)
}

func tells(t *testing.T, a *Agent, want ...api.Message) {
	t.Helper()
	list := a.Tell()
	if !sameMessages(list, want) {
		t.Errorf("Tell: %v, not %v", list, want)
	}
	areMessages(t, list)
	if again := a.Tell(); len(again) != 0 {
		t.Errorf("Tell again: %v", again)
	}
}

func areMessages(t *testing.T, list []api.Message) {
	t.Helper()
	for _, m := range list {
		if e := message.Check(m); e != api.OK {
			t.Errorf("%v: %v", m, e)
		}
	}
}

// do is done without an answer.
func do(t *testing.T, a *Agent, list ...api.Message) {
	t.Helper()
	for _, m := range list {
		answers(t, a, m)
	}
}

func turn(t *testing.T, a *Agent, port uint16, up bool, want api.Errno) {
	t.Helper()
	if e := a.Up(port, up); e != want {
		t.Errorf("Up(%d, %t): %v, not %v", port, up, e, want)
	}
}

func take(t *testing.T, a *Agent, port uint16, b []byte) {
	t.Helper()
	if e := a.Switch().Take(port, b); e != api.OK {
		t.Errorf("Take(%d, %x): %v", port, b, e)
	}
}

// goesOut: the frames that stand in the port's queue, all of them.
func goesOut(t *testing.T, a *Agent, port uint16, want ...[]byte) {
	t.Helper()
	for i, w := range want {
		if b, ok := a.Switch().Next(port); !ok || !bytes.Equal(b, w) {
			t.Errorf("Next(%d), frame %d: %x, %t, not %x", port, i, b, ok, w)
		}
	}
	if b, ok := a.Switch().Next(port); ok || len(b) != 0 {
		t.Errorf("Next(%d): %x, %t, not none", port, b, ok)
	}
}

func holds(t *testing.T, a *Agent, want ...api.Held) {
	t.Helper()
	if list := a.Switch().Helds(); !slices.EqualFunc(list, want, sameHeld) {
		t.Errorf("Helds: %v, not %v", list, want)
	}
}

// Lists that are empty are alike, be they nil or not.

func sameMessages(a, b []api.Message) bool {
	return slices.EqualFunc(a, b, sameMessage)
}

func sameMessage(a, b api.Message) bool {
	return a.Type == b.Type && a.Id == b.Id && a.Do == b.Do && sameRule(a.Rule, b.Rule) && a.Port == b.Port &&
		a.Up == b.Up && a.Switch == b.Switch && slices.Equal(a.Ports, b.Ports) && slices.Equal(a.Edge, b.Edge) &&
		bytes.Equal(a.Frame, b.Frame) && slices.EqualFunc(a.Helds, b.Helds, sameHeld) && a.Code == b.Code
}

func sameHeld(a, b api.Held) bool {
	return sameRule(a.Rule, b.Rule) && a.Counts == b.Counts
}

func sameRule(a, b api.Rule) bool {
	return a.Rank == b.Rank && a.Match == b.Match && a.Cookie == b.Cookie &&
		slices.EqualFunc(a.Copies, b.Copies, slices.Equal[[]api.Action])
}

// The chapter's examples, row by row.
func TestExamples(t *testing.T) {
	a := made(t)
	tells(t, a, hello())
	answers(t, a, ask(api.MsgAsk, 4), features(4, 7, []uint16{1, 2, 3}, []uint16{1, 2}))
	answers(t, a, ruleMessage(5, api.RuleAdd, all(0, 0, make([][]api.Action, 65)...)), refusal(5, 2))
	answers(t, a, api.Message{Type: api.MsgIn, Id: 6}, refusal(6, 70))
	answers(t, a, ask(api.MsgBarrier, 7), ask(api.MsgBarred, 7))
	turn(t, a, 3, false, api.OK)
	tells(t, a, portIs(3, false))
	turn(t, a, 9, true, api.ErrNone)
	tells(t, a)
	answers(t, a, ask(api.MsgStats, 8), statedBy(8, 0))
}

func numbers(first, n uint16) []uint16 {
	var list []uint16
	for i := range n {
		list = append(list, first+i)
	}
	return list
}

// P14.1: an agent is refused just as pipeline.New refuses its switch, with that
// error, the first that the chapter names; every bound, and one past it.
func TestNew(t *testing.T) {
	cases := []struct {
		id          uint16
		edge, inner []uint16
		want        api.Errno
	}{
		{1, nil, nil, api.OK},
		{65535, []uint16{65535}, []uint16{1}, api.OK},
		{0, []uint16{1}, []uint16{2}, api.ErrArg},
		{1, []uint16{0}, nil, api.ErrArg},
		{1, []uint16{1}, []uint16{2, 0}, api.ErrArg},
		{1, numbers(1, 16), nil, api.OK},
		{1, nil, numbers(1, 16), api.OK},
		{1, numbers(1, 8), numbers(9, 8), api.OK},
		{1, numbers(1, 17), nil, api.ErrArg},
		{1, nil, numbers(1, 17), api.ErrArg},
		{1, numbers(1, 8), numbers(9, 9), api.ErrArg},
		{1, []uint16{1, 1}, nil, api.ErrThere},
		{1, nil, []uint16{2, 2}, api.ErrThere},
		{1, []uint16{1, 2}, []uint16{3, 2}, api.ErrThere},
		{0, []uint16{1, 1}, nil, api.ErrArg},
		{1, []uint16{1, 1, 0}, nil, api.ErrArg},
		{1, numbers(1, 9), numbers(1, 8), api.ErrArg},
	}
	for _, c := range cases {
		for _, n := range []int{math.MinInt, -1, 0, 1, 1024, 1025, math.MaxInt} {
			a, e := New(c.id, c.edge, c.inner, n, n)
			if e != c.want || (a == nil) != (e != api.OK) {
				t.Errorf("New(%d, %v, %v, %d, %d): %v, %v, not %v", c.id, c.edge, c.inner, n, n, a, e, c.want)
			}
			if _, e := pipeline.New(c.id, c.edge, c.inner, n, n); e != c.want {
				t.Errorf("pipeline.New(%d, %v, %v): %v, not %v", c.id, c.edge, c.inner, e, c.want)
			}
		}
	}
}

// P14.1: its switch has the number, the ports and the room that were asked for.
func TestNewSwitch(t *testing.T) {
	for _, c := range []struct{ room, want int }{{-1, 0}, {0, 0}, {1, 1}, {5, 5}, {1024, 1024}, {1025, 1024}} {
		a := newAgent(t, 65535, []uint16{1, 65535}, []uint16{2, 65534}, c.room, 4)
		for n := range c.want {
			do(t, a, ruleMessage(0, api.RuleAdd, to(uint64(n), 1, 0)))
		}
		answers(t, a, ruleMessage(3, api.RuleAdd, to(uint64(c.want), 1, 0)), refusal(3, api.ErrFull))
		for _, port := range []uint16{1, 65535, 2, 65534} {
			turn(t, a, port, true, api.OK)
		}
		for _, port := range []uint16{0, 3, 65533} {
			turn(t, a, port, true, api.ErrNone)
		}
		do(t, a, outMessage(0, 65535, data(t, 0, 1)), outMessage(0, 65534, data(t, 4095, 1)))
		answers(t, a, outMessage(1, 65535, data(t, 4095, 1)), refusal(1, api.ErrFrame))
		answers(t, a, outMessage(1, 65534, data(t, 0, 1)), refusal(1, api.ErrFrame))
	}
	a := newAgent(t, 65535, []uint16{1}, nil, 4, 4)
	do(t, a, ruleMessage(0, api.RuleAdd, api.Rule{
		Match:  api.Match{Value: api.Header{api.Switch: 65535}, Mask: api.Header{api.Switch: 65535}},
		Copies: [][]api.Action{one(out(1))},
	}))
	take(t, a, 1, data(t, 0, 9))
	goesOut(t, a, 1, data(t, 0, 9))
}

// P14.3: a port's new state is told behind what was punted; a state that is not
// new is not told.
func TestUp(t *testing.T) {
	a := made(t)
	tells(t, a, hello())
	turn(t, a, 1, true, api.OK)
	tells(t, a)
	take(t, a, 1, arpFrame(t, 1))
	turn(t, a, 1, false, api.OK)
	turn(t, a, 1, false, api.OK)
	turn(t, a, 3, false, api.OK)
	turn(t, a, 1, true, api.OK)
	take(t, a, 2, arpFrame(t, 2))
	tells(t, a, in(1, arpFrame(t, 1)), portIs(1, false), portIs(3, false), portIs(1, true), in(2, arpFrame(t, 2)))
	for _, port := range []uint16{0, 4, 9, 65535} {
		turn(t, a, port, true, api.ErrNone)
		turn(t, a, port, false, api.ErrNone)
	}
	tells(t, a)
}

// P14.3: what goes out by a port hangs on whether it is up.
func TestUpIsTheSwitchs(t *testing.T) {
	a := made(t)
	do(t, a, outMessage(0, 2, data(t, 0, 1)))
	turn(t, a, 2, false, api.OK)
	answers(t, a, outMessage(4, 2, data(t, 0, 1)), refusal(4, api.ErrNone))
	if e := a.Switch().Take(2, data(t, 0, 1)); e != api.ErrNone {
		t.Error(e)
	}
	turn(t, a, 2, true, api.OK)
	goesOut(t, a, 2)
	do(t, a, outMessage(0, 2, data(t, 0, 2)))
	goesOut(t, a, 2, data(t, 0, 2))
}

// P14.4: the Hello is told once and ahead of all else, whenever Tell is asked
// first; then the punts, once each, in order.
func TestTell(t *testing.T) {
	a := made(t)
	answers(t, a, ask(api.MsgHello, 3), features(3, 7, []uint16{1, 2, 3}, []uint16{1, 2}))
	take(t, a, 1, arpFrame(t, 1))
	turn(t, a, 2, false, api.OK)
	take(t, a, 3, probeFrame(t))
	tells(t, a, hello(), in(1, arpFrame(t, 1)), portIs(2, false), in(3, probeFrame(t)))
	take(t, a, 1, arpFrame(t, 2))
	tells(t, a, in(1, arpFrame(t, 2)))
	do(t, a, ruleMessage(1, api.RuleAdd, all(1, 1, one(punt()))))
	take(t, a, 1, data(t, 0, 1))
	take(t, a, 3, data(t, 5, 1))
	tells(t, a, in(1, data(t, 0, 1)), in(3, data(t, 5, 1)))
}

// P14.4: all punts are told, as many as there are.
func TestTellMany(t *testing.T) {
	a := made(t)
	want := []api.Message{hello()}
	for n := range uint64(100) {
		take(t, a, 1, arpFrame(t, n))
		if n < api.MaxQueue {
			want = append(want, in(1, arpFrame(t, n)))
		}
	}
	for n := range 100 {
		turn(t, a, 2, n%2 == 1, api.OK)
		want = append(want, portIs(2, n%2 == 1))
	}
	tells(t, a, want...)
}

// P14.4: what others took from the switch is told no more; the Hello is still
// to be told.
func TestTellBehindPunts(t *testing.T) {
	a := made(t)
	take(t, a, 1, arpFrame(t, 1))
	if list := a.Switch().Punts(); !sameMessages(list, []api.Message{in(1, arpFrame(t, 1))}) {
		t.Error(list)
	}
	tells(t, a, hello())
}

// P14.5: it is one and the same switch each time, and the agent's own.
func TestSwitch(t *testing.T) {
	a, b := made(t), made(t)
	if a.Switch() == nil || a.Switch() != a.Switch() || a.Switch() == b.Switch() {
		t.Error(a.Switch(), b.Switch())
	}
	do(t, a, ruleMessage(1, api.RuleAdd, all(5, 6)))
	holds(t, a, has(all(5, 6), 0, 0))
	holds(t, b)
	if n, e := a.Switch().Rule(api.RuleDelete, api.Rule{}); n != 1 || e != api.OK {
		t.Error(n, e)
	}
	answers(t, a, ask(api.MsgStats, 1), statedBy(1, 0, lost(6, 0, 0)))
}

// P14.5, R1: of no agent: none, nothing, ErrNil, whatever it is handed.
func TestNoAgent(t *testing.T) {
	var none *Agent
	for _, a := range []*Agent{none, {}} {
		for kind := math.MinInt8; kind <= math.MaxInt8; kind++ {
			m := api.Message{Type: int8(kind), Id: 5, Port: 1, Frame: []byte{1}}
			if list := append(a.Do(m), a.Do(ask(int8(kind), 5))...); len(list) != 0 {
				t.Error(kind, list)
			}
		}
		for _, port := range []uint16{0, 1, 65535} {
			turn(t, a, port, true, api.ErrNil)
			turn(t, a, port, false, api.ErrNil)
		}
		if list := a.Tell(); len(list) != 0 || a.Switch() != nil {
			t.Error(list, a.Switch())
		}
	}
}

// The agent has the chapter's calls, and none of its switch's: what came by
// one of them would not have come by a message.
func TestCalls(t *testing.T) {
	x := reflect.TypeFor[*Agent]()
	var names []string
	for i := range x.NumMethod() {
		names = append(names, x.Method(i).Name)
	}
	if !slices.Equal(names, []string{"Do", "Switch", "Tell", "Up"}) {
		t.Error(names)
	}
}
