package agent

import (
	"bytes"
	"reflect"
	"slices"
	"testing"

	"tollbridge/api"
)

// R3: lists of ports are neither changed nor kept, with the room behind them.
func TestPortsAreNotKept(t *testing.T) {
	whole := []uint16{9, 2, 1, 4, 3}
	edge, inner := whole[1:3], whole[3:4]
	a := newAgent(t, 7, edge, inner, 8, 8)
	if !slices.Equal(whole, []uint16{9, 2, 1, 4, 3}) {
		t.Error(whole)
	}
	for i := range whole {
		whole[i] = 5
	}
	answers(t, a, ask(api.MsgAsk, 1), features(1, 7, []uint16{1, 2, 4}, []uint16{1, 2}))
	turn(t, a, 5, true, api.ErrNone)
	turn(t, a, 2, false, api.OK)
}

// R3: a message that is handed in is neither changed nor kept.
func TestMessageIsNotKept(t *testing.T) {
	a := made(t)
	copies := [][]api.Action{one(out(2), out(2), out(1))[:2], one(punt())}
	m, want := ruleMessage(1, api.RuleAdd, all(1, 5, copies...)), all(1, 5, one(out(2), out(2)), one(punt()))
	do(t, a, m)
	if !reflect.DeepEqual(m.Rule, want) || copies[0][:3][2] != out(1) {
		t.Error(m)
	}
	copies[0][0], copies[1] = out(3), nil
	holds(t, a, has(want, 0, 0))

	b := append(data(t, 0, 1), 77, 78)
	sent := b[:len(b)-2]
	do(t, a, outMessage(2, 1, sent))
	if !bytes.Equal(b, append(data(t, 0, 1), 77, 78)) {
		t.Errorf("%x", b)
	}
	clear(b)
	goesOut(t, a, 1, data(t, 0, 1))
}

// R3: messages that are refused are not changed either.
func TestRefusedIsLeftAlone(t *testing.T) {
	a := made(t)
	for i, m := range spoilt() {
		a.Do(m)
		if !reflect.DeepEqual(m, spoilt()[i]) {
			t.Errorf("%v, not %v", m, spoilt()[i])
		}
	}
}

// R3: what the caller writes into an answer no later one shows, nor another
// list of the same.
func TestAnswersAreNew(t *testing.T) {
	a := made(t)
	for range 3 {
		list := a.Do(ask(api.MsgAsk, 1))
		clear(list[0].Edge[:cap(list[0].Edge)])
		if !slices.Equal(list[0].Ports, []uint16{1, 2, 3}) {
			t.Error(list)
		}
		clear(list[0].Ports[:cap(list[0].Ports)])
		clear(list[:cap(list)])
		answers(t, a, ask(api.MsgHello, 1), features(1, 7, []uint16{1, 2, 3}, []uint16{1, 2}))
	}
	edgeless := newAgent(t, 7, nil, []uint16{3}, 8, 8)
	edgeless.Do(ask(api.MsgAsk, 1))[0].Ports[0] = 9
	answers(t, edgeless, ask(api.MsgAsk, 1), features(1, 7, []uint16{3}, nil))
}

// R3: the lists of all MsgStated are apart, with the room behind their ends,
// and from the switch's own.
func TestStatedIsNew(t *testing.T) {
	a := made(t)
	for n := range 600 {
		add(t, a, all(n, 5, one(out(2)), one(punt())))
	}
	want := a.Switch().Helds()
	for range 2 {
		list := a.Do(ask(api.MsgStats, 1))
		if len(list) < 3 {
			t.Fatal(counted(list))
		}
		after := slices.Clone(list[1].Helds)
		clear(list[0].Helds[:cap(list[0].Helds)])
		if !slices.EqualFunc(list[1].Helds, after, sameHeld) || len(after) == 0 || after[0].Rule.Cookie != 5 {
			t.Error("one list is written into another")
		}
		for i := range list[1].Helds {
			list[1].Helds[i].Rule.Copies[0][0] = out(9)
			list[1].Helds[i].Rule.Copies[1] = nil
		}
		holds(t, a, want...)
	}
	kept := a.Do(ask(api.MsgStats, 1))
	do(t, a, ruleMessage(1, api.RuleModify, all(0, 6, one(out(1)))))
	take(t, a, 1, data(t, 0, 1))
	var helds []api.Held
	for _, m := range kept {
		helds = append(helds, m.Helds...)
	}
	if !slices.EqualFunc(helds, want, sameHeld) {
		t.Error("an answer changed later on")
	}
}

// R3: what is told is new memory.
func TestTellIsNew(t *testing.T) {
	a := made(t)
	take(t, a, 1, arpFrame(t, 1))
	take(t, a, 1, arpFrame(t, 2))
	list := a.Tell()
	clear(list[1].Frame[:cap(list[1].Frame)])
	if len(list) != 3 || !bytes.Equal(list[2].Frame, arpFrame(t, 2)) {
		t.Error(list)
	}
	take(t, a, 1, arpFrame(t, 3))
	clear(list[:cap(list)])
	tells(t, a, in(1, arpFrame(t, 3)))
}
