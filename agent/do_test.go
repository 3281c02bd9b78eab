package agent

import (
	"math"
	"reflect"
	"slices"
	"testing"

	"tollbridge/api"
	"tollbridge/message"
)

// ids are at the ends of their width, and between.
func ids() []uint32 {
	return []uint32{0, 1, 255, 256, 1<<16 - 1, 1 << 16, 1<<31 - 1, 1 << 31, math.MaxUint32}
}

// whole is a message of each Type, with all that counts of it.
func whole(kind int8) api.Message {
	m := api.Message{Type: kind}
	switch kind {
	case api.MsgFeatures:
		m.Switch, m.Ports, m.Edge = 7, []uint16{1, 2, 3}, []uint16{1, 2}
	case api.MsgRule:
		m.Do, m.Rule = api.RuleStrict, all(3, 4, one(out(1)))
	case api.MsgIn, api.MsgOut:
		m.Port, m.Frame = 1, []byte{1, 2, 3}
	case api.MsgStated:
		m.Port, m.Helds = 1, []api.Held{has(all(3, 4), 5, 6)}
	case api.MsgPort:
		m.Port, m.Up = 1, true
	case api.MsgError:
		m.Code = 70
	}
	return m
}

// P14.2: what is answered to each Type that no switch is told, and to those
// that are none: an error, whatever else counts in it.
func TestOtherTypes(t *testing.T) {
	heard := []int{api.MsgHello, api.MsgAsk, api.MsgEcho, api.MsgRule, api.MsgOut, api.MsgBarrier, api.MsgStats, api.MsgEchoed}
	for kind := math.MinInt8; kind <= math.MaxInt8; kind++ {
		if slices.Contains(heard, kind) {
			continue
		}
		a := made(t)
		for _, id := range ids() {
			for _, m := range []api.Message{whole(int8(kind)), ask(int8(kind), 0)} {
				m.Id = id
				answers(t, a, m, refusal(id, api.ErrMessage))
			}
		}
		tells(t, a, hello())
		holds(t, a)
	}
}

// P14.2: Hello and Ask are answered alike, each time, whatever else was done.
func TestFeatures(t *testing.T) {
	cases := []struct {
		id                       uint16
		edge, inner, ports, rise []uint16
	}{
		{1, nil, nil, nil, nil},
		{7, []uint16{2, 1}, []uint16{3}, []uint16{1, 2, 3}, []uint16{1, 2}},
		{7, []uint16{3}, []uint16{2, 1}, []uint16{1, 2, 3}, []uint16{3}},
		{65535, nil, []uint16{65535, 1, 256, 255}, []uint16{1, 255, 256, 65535}, nil},
		{256, []uint16{65535, 1, 256, 255}, nil, []uint16{1, 255, 256, 65535}, []uint16{1, 255, 256, 65535}},
		{9, []uint16{16, 14, 12, 10, 8, 6, 4, 2}, []uint16{15, 13, 11, 9, 7, 5, 3, 1}, numbers(1, 16), []uint16{2, 4, 6, 8, 10, 12, 14, 16}},
	}
	for _, c := range cases {
		a := newAgent(t, c.id, c.edge, c.inner, 4, 4)
		for _, id := range ids() {
			answers(t, a, ask(api.MsgHello, id), features(id, c.id, c.ports, c.rise))
			answers(t, a, ask(api.MsgAsk, id), features(id, c.id, c.ports, c.rise))
		}
		tells(t, a, hello())
		for _, port := range c.ports {
			turn(t, a, port, false, api.OK)
		}
		answers(t, a, ask(api.MsgAsk, 5), features(5, c.id, c.ports, c.rise))
		answers(t, a, ask(api.MsgHello, 5), features(5, c.id, c.ports, c.rise))
	}
}

// P14.2: a Hello that comes in leaves the table, the queues and what is to be
// told as they are.
func TestHelloChangesNothing(t *testing.T) {
	a := made(t)
	do(t, a, ruleMessage(1, api.RuleAdd, all(5, 6)), outMessage(1, 2, data(t, 0, 1)))
	take(t, a, 1, arpFrame(t, 1))
	turn(t, a, 3, false, api.OK)
	for _, kind := range []int8{api.MsgHello, api.MsgAsk, api.MsgEcho, api.MsgEchoed, api.MsgBarrier, api.MsgStats, api.MsgIn, 14} {
		a.Do(ask(kind, 9))
	}
	holds(t, a, has(all(5, 6), 0, 0))
	goesOut(t, a, 2, data(t, 0, 1))
	answers(t, a, outMessage(4, 3, data(t, 1, 1)), refusal(4, api.ErrNone))
	tells(t, a, hello(), in(1, arpFrame(t, 1)), portIs(3, false))
}

// P14.2: Echo, Barrier and Echoed, of every Id.
func TestBare(t *testing.T) {
	a := made(t)
	for _, id := range ids() {
		answers(t, a, ask(api.MsgEcho, id), ask(api.MsgEchoed, id))
		answers(t, a, ask(api.MsgBarrier, id), ask(api.MsgBarred, id))
		answers(t, a, ask(api.MsgEchoed, id))
	}
}

// P14.2: each Do of a rule is the switch's, with the whole rule.
func TestRule(t *testing.T) {
	a := made(t)
	first, second := to(1, 5, 6, one(out(2))), to(2, 4, 7, one(out(1)), one(punt()))
	do(t, a, ruleMessage(1, api.RuleAdd, first), ruleMessage(2, api.RuleAdd, second))
	holds(t, a, has(first, 0, 0), has(second, 0, 0))
	take(t, a, 1, data(t, 0, 1))
	goesOut(t, a, 2, data(t, 0, 1))
	size := uint64(len(data(t, 0, 1)))

	do(t, a, ruleMessage(3, api.RuleModify, to(1, 99, 8, one(out(1)))))
	changed := to(1, 5, 8, one(out(1)))
	holds(t, a, has(changed, 0, 0), has(second, 0, 0), lost(6, 1, size))
	take(t, a, 2, data(t, 0, 1))
	goesOut(t, a, 1, data(t, 0, 1))

	do(t, a, ruleMessage(4, api.RuleStrict, to(1, 4, 0)), ruleMessage(4, api.RuleStrict, to(2, 4, 0)))
	holds(t, a, has(changed, 1, size), lost(6, 1, size), lost(7, 0, 0))
	do(t, a, ruleMessage(5, api.RuleDelete, all(0, 0)), ruleMessage(6, api.RuleDelete, all(0, 0)), ruleMessage(7, api.RuleModify, all(0, 0)))
	holds(t, a, lost(6, 1, size), lost(7, 0, 0), lost(8, 1, size))
}

// P14.2: Ranks, Cookies and ports at the ends of their widths.
func TestRuleEnds(t *testing.T) {
	a := made(t)
	top, bottom := all(math.MaxInt32, math.MaxUint64, one(out(65535))), all(math.MinInt32, 0, one(out(0)))
	do(t, a, ruleMessage(math.MaxUint32, api.RuleAdd, bottom), ruleMessage(0, api.RuleAdd, top))
	holds(t, a, has(top, 0, 0), has(bottom, 0, 0))
	for _, rank := range []int{math.MaxInt32 + 1, math.MinInt32 - 1, math.MaxInt, math.MinInt} {
		answers(t, a, ruleMessage(3, api.RuleAdd, all(rank, 1)), refusal(3, api.ErrMessage))
	}
	answers(t, a, ruleMessage(4, api.RuleAdd, all(1, 1, one(out(65536)))), refusal(4, api.ErrArg))
	holds(t, a, has(top, 0, 0), has(bottom, 0, 0))
}

// P14.2: a rule that the switch refuses is answered by its error, which none of
// the others is; nothing is changed.
func TestRuleRefused(t *testing.T) {
	long := func(n int) []api.Action { return slices.Repeat(one(out(1)), n) }
	a := newAgent(t, 7, []uint16{1, 2}, []uint16{3}, 1, 4)
	first := all(1, 1, one(out(2)))
	do(t, a, ruleMessage(1, api.RuleAdd, first))
	cases := []struct {
		r    api.Rule
		want api.Errno
	}{
		{all(2, 1), api.ErrFull},
		{to(1, 1, 1), api.ErrFull},
		{all(1, 1, make([][]api.Action, 65)...), api.ErrArg},
		{all(1, 1, long(17)), api.ErrArg},
		{all(1, 1, append(slices.Repeat([][]api.Action{long(16)}, 40), long(1))...), api.ErrArg},
		{all(1, 1, one(out(65536))), api.ErrArg},
		{all(1, 1, one(api.Action{Do: api.ActSet, Field: api.Port, N: 1})), api.ErrArg},
		{all(1, 1, one(api.Action{Do: api.ActSet, Field: api.Kind, N: 1})), api.ErrArg},
		{all(1, 1, one(api.Action{Do: api.ActSet, Field: api.Fields, N: 1})), api.ErrArg},
		{all(1, 1, one(api.Action{Do: api.ActSet, Field: 127, N: 1})), api.ErrArg},
		{all(1, 1, one(api.Action{Do: api.ActSet, Field: api.Vlan, N: 1 << 12})), api.ErrArg},
	}
	for _, c := range cases {
		for _, id := range ids() {
			answers(t, a, ruleMessage(id, api.RuleAdd, c.r), refusal(id, c.want))
		}
		if c.want == api.ErrArg {
			answers(t, a, ruleMessage(9, api.RuleModify, c.r), refusal(9, api.ErrArg))
		}
		holds(t, a, has(first, 0, 0))
	}
	for _, c := range cases {
		do(t, a, ruleMessage(9, api.RuleStrict, api.Rule{Rank: 7, Match: c.r.Match, Copies: c.r.Copies}))
	}
	holds(t, a, has(first, 0, 0))
	do(t, a, ruleMessage(9, api.RuleDelete, cases[2].r))
	holds(t, a, lost(1, 0, 0))
}

// P14.2: the greatest rules that a switch takes are no error.
func TestGreatRule(t *testing.T) {
	a := made(t)
	do(t, a, ruleMessage(1, api.RuleAdd, all(1, 1, make([][]api.Action, 64)...)))
	do(t, a, ruleMessage(1, api.RuleAdd, greatest(2)))
	holds(t, a, has(greatest(2), 0, 0), has(all(1, 1, make([][]api.Action, 64)...), 0, 0))
}

// greatest has as many bytes as a rule can that a switch takes: 640 actions in
// 64 copies, and every field of the match.
func greatest(rank int) api.Rule {
	copies := make([][]api.Action, 64)
	for i := range copies {
		copies[i] = slices.Repeat(one(out(65535)), 10)
	}
	r := all(rank, math.MaxUint64, copies...)
	for field := range r.Match.Mask {
		r.Match.Mask[field] = 1
	}
	return r
}

// P14.2: an Out is the switch's Send, or its error.
func TestOut(t *testing.T) {
	a := made(t)
	do(t, a,
		outMessage(1, 1, data(t, 0, 1)), outMessage(2, 3, data(t, 5, 2)), outMessage(3, 2, arpFrame(t, 3)),
		outMessage(4, 3, probeFrame(t)), outMessage(5, 1, data(t, 0, 4)))
	goesOut(t, a, 1, data(t, 0, 1), data(t, 0, 4))
	goesOut(t, a, 2, arpFrame(t, 3))
	goesOut(t, a, 3, data(t, 5, 2), probeFrame(t))
	cases := []struct {
		port uint16
		b    []byte
		want api.Errno
	}{
		{0, data(t, 0, 1), api.ErrNone},
		{4, data(t, 0, 1), api.ErrNone},
		{65535, nil, api.ErrNone},
		{1, nil, api.ErrFrame},
		{1, []byte{1, 2, 3}, api.ErrFrame},
		{1, make([]byte, 1515), api.ErrFrame},
		{1, data(t, 5, 1), api.ErrFrame},
		{3, data(t, 0, 1), api.ErrFrame},
	}
	for _, c := range cases {
		for _, id := range ids() {
			answers(t, a, outMessage(id, c.port, c.b), refusal(id, c.want))
		}
	}
	for _, port := range []uint16{1, 2, 3} {
		goesOut(t, a, port)
	}
	tells(t, a, hello())
}

// P14.2: a queue has room for MaxQueue frames, and not for one more.
func TestOutFull(t *testing.T) {
	a := made(t)
	var want [][]byte
	for n := range uint64(api.MaxQueue) {
		do(t, a, outMessage(1, 2, data(t, 0, n)))
		want = append(want, data(t, 0, n))
	}
	answers(t, a, outMessage(6, 2, data(t, 0, 99)), refusal(6, api.ErrFull))
	answers(t, a, outMessage(7, 2, data(t, 1, 99)), refusal(7, api.ErrFrame))
	do(t, a, outMessage(8, 1, data(t, 0, 99)))
	goesOut(t, a, 2, want...)
	do(t, a, outMessage(9, 2, data(t, 0, 99)))
	goesOut(t, a, 2, data(t, 0, 99))
}

// spoilt are messages of a Type that a switch is told, but with something that
// makes them none.
func spoilt() []api.Message {
	var list []api.Message
	for _, kind := range []int8{api.MsgHello, api.MsgAsk, api.MsgEcho, api.MsgRule, api.MsgOut, api.MsgBarrier, api.MsgStats, api.MsgEchoed} {
		for _, spoil := range []func(m *api.Message){
			func(m *api.Message) { m.Do = 4 },
			func(m *api.Message) { m.Do = -1 },
			func(m *api.Message) { m.Rule.Rank = math.MaxInt32 + 1 },
			func(m *api.Message) { m.Rule.Match.Value[api.Dst] = 1 },
			func(m *api.Message) { m.Rule.Match.Mask[api.Vlan] = 1 << 12 },
			func(m *api.Message) { m.Rule.Copies = [][]api.Action{{{Do: 3}}} },
			func(m *api.Message) { m.Rule.Copies = [][]api.Action{{{Do: api.ActPunt, N: 1}}} },
			func(m *api.Message) { m.Rule.Copies = [][]api.Action{{{Do: api.ActSet, Field: -1}}} },
			func(m *api.Message) { m.Up = true },
			func(m *api.Message) { m.Switch = 7 },
			func(m *api.Message) { m.Ports = []uint16{1} },
			func(m *api.Message) { m.Edge = []uint16{1} },
			func(m *api.Message) { m.Helds = []api.Held{{}} },
			func(m *api.Message) { m.Code = 1 },
			func(m *api.Message) { m.Frame, m.Rule.Cookie = []byte{1}, 1 },
			func(m *api.Message) { m.Port, m.Rule.Cookie = 1, 1 },
		} {
			m := whole(kind)
			spoil(&m)
			list = append(list, m)
		}
	}
	return list
}

// P14.2, R10: what is no message is refused ahead of all else, with its Id, and
// nothing is done.
func TestNoMessage(t *testing.T) {
	a := made(t)
	do(t, a, ruleMessage(1, api.RuleAdd, all(3, 4, one(out(1)))))
	for _, m := range spoilt() {
		if message.Check(m) != api.ErrMessage {
			t.Errorf("%v is a message", m)
		}
		for _, id := range ids() {
			m.Id = id
			answers(t, a, m, refusal(id, api.ErrMessage))
		}
	}
	holds(t, a, has(all(3, 4, one(out(1))), 0, 0))
	for _, port := range []uint16{1, 2, 3} {
		goesOut(t, a, port)
	}
	tells(t, a, hello())
}

// P14.2: what is too long to be a message is answered by ErrMessage too; what
// has just as many bytes as there may be is not.
func TestTooLong(t *testing.T) {
	a := made(t)
	m := outMessage(3, 1, make([]byte, api.MaxMessage-12))
	if e := message.Check(m); e != api.OK {
		t.Fatal(e)
	}
	answers(t, a, m, refusal(3, api.ErrFrame))
	m = outMessage(4, 1, make([]byte, api.MaxMessage-11))
	if e := message.Check(m); e != api.ErrLong {
		t.Fatal(e)
	}
	answers(t, a, m, refusal(4, api.ErrMessage))

	copies := append(slices.Repeat([][]api.Action{slices.Repeat(one(out(1)), 16)}, 50), nil, slices.Repeat(one(out(1)), 6))
	r := all(1, 1, copies...)
	for i := range 3 {
		m := ruleMessage(5, api.RuleDelete, r)
		if e := message.Check(m); (e == api.OK) != (i < 2) {
			t.Fatal(i, e)
		}
		if i < 2 {
			answers(t, a, m)
		} else {
			answers(t, a, m, refusal(5, api.ErrMessage))
		}
		r.Copies = append(r.Copies, nil)
	}
}

// P14.2: bounds of lists that a message has but a rule has not: the switch's
// error, not the message's.
func TestWhichError(t *testing.T) {
	a := made(t)
	answers(t, a, ruleMessage(1, api.RuleAdd, all(1, 1, make([][]api.Action, 3000)...)), refusal(1, api.ErrArg))
	answers(t, a, ruleMessage(1, api.RuleModify, all(1, 1, make([][]api.Action, 3000)...)), refusal(1, api.ErrArg))
	answers(t, a, ruleMessage(1, api.RuleAdd, all(1, 1, make([][]api.Action, 70000)...)), refusal(1, api.ErrMessage))
}

// P14.6: what is answered to a row of messages is what is answered to each, one
// behind the other; what stands ahead of a Barrier is done when it is Barred.
func TestRow(t *testing.T) {
	a := newAgent(t, 7, []uint16{1, 2}, []uint16{3}, 1, 4)
	row := []api.Message{
		ruleMessage(1, api.RuleAdd, all(1, 1)),
		ruleMessage(2, api.RuleAdd, all(2, 1)),
		ask(api.MsgBarrier, 3),
		ask(api.MsgStats, 4),
		ruleMessage(5, api.RuleDelete, all(0, 0)),
		outMessage(6, 9, nil),
		ask(api.MsgBarrier, 7),
		ask(api.MsgEcho, 7),
		ask(api.MsgStats, 8),
		ask(api.MsgBarred, 9),
	}
	want := []api.Message{
		refusal(2, api.ErrFull), ask(api.MsgBarred, 3), statedBy(4, 0, has(all(1, 1), 0, 0)),
		refusal(6, api.ErrNone), ask(api.MsgBarred, 7), ask(api.MsgEchoed, 7), statedBy(8, 0, lost(1, 0, 0)),
		refusal(9, api.ErrMessage),
	}
	var list []api.Message
	for _, m := range row {
		list = append(list, a.Do(m)...)
		if m.Type == api.MsgBarrier {
			rules := len(a.Switch().Helds())
			if list[len(list)-1].Type != api.MsgBarred || rules != 1 {
				t.Error(list, rules)
			}
		}
	}
	if !sameMessages(list, want) {
		t.Errorf("%v, not %v", list, want)
	}
}

// R2: nothing but the agent's own past tells in its answers.
func TestAgentsApart(t *testing.T) {
	a, b := made(t), newAgent(t, 8, []uint16{5}, nil, 1, 0)
	do(t, a, ruleMessage(1, api.RuleAdd, all(1, 1)))
	tells(t, a, hello())
	answers(t, b, ask(api.MsgStats, 1), statedBy(1, 0))
	answers(t, b, ask(api.MsgAsk, 1), features(1, 8, []uint16{5}, []uint16{5}))
	turn(t, b, 5, false, api.OK)
	tells(t, a)
	tells(t, b, hello(), portIs(5, false))
	if !reflect.DeepEqual(made(t).Do(ask(api.MsgAsk, 3)), a.Do(ask(api.MsgAsk, 3))) {
		t.Error("agents of one kind say unlike things")
	}
}
