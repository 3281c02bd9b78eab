package agent

import (
	"math"
	"math/rand"
	"slices"
	"testing"

	"tollbridge/api"
	"tollbridge/message"
)

// widthsInBytes goes by a field's number, written out once more so as not to
// lean on what is tested.
var widthsInBytes = [api.Fields]int{6, 6, 2, 2, 4, 4, 1, 2, 2, 2, 2}

const (
	stateSize = 12 // bytes of a MsgStated without Helds
	heldSize  = 32 // of the least Held
)

// sizeOf is how many bytes a Held goes in, by chapter 7's words.
func sizeOf(h api.Held) int {
	size := heldSize
	for field, mask := range h.Rule.Match.Mask {
		if mask != 0 {
			size += 2 * widthsInBytes[field]
		}
	}
	for _, list := range h.Rule.Copies {
		size += 2 + 10*len(list)
	}
	return size
}

// cutBySizes is the row Stats of the chapter's table, Held by Held.
func cutBySizes(id uint32, helds []api.Held) []api.Message {
	m, size := statedBy(id, 0), stateSize
	var list []api.Message
	for _, h := range helds {
		if size += sizeOf(h); size > api.MaxMessage {
			m.Port = 1
			list = append(list, m)
			m, size = statedBy(id, 0), stateSize+sizeOf(h)
		}
		m.Helds = append(m.Helds, h)
	}
	return append(list, m)
}

// states asks for all that is said of the agent's Helds, and tells it.
func states(t *testing.T, a *Agent, id uint32) []api.Message {
	t.Helper()
	want := cutBySizes(id, a.Switch().Helds())
	list := a.Do(ask(api.MsgStats, id))
	if !sameMessages(list, want) {
		t.Fatalf("%d Helds: %v, not %v", len(a.Switch().Helds()), counted(list), counted(want))
	}
	areMessages(t, list)
	return list
}

// counted is how many Helds each message has.
func counted(list []api.Message) []int {
	var n []int
	for _, m := range list {
		n = append(n, len(m.Helds))
	}
	return n
}

func add(t *testing.T, a *Agent, r api.Rule) {
	t.Helper()
	do(t, a, ruleMessage(0, api.RuleAdd, r))
}

// P14.2: without Helds there is one message, without any, and nothing follows.
func TestStatedEmpty(t *testing.T) {
	for _, id := range ids() {
		answers(t, made(t), ask(api.MsgStats, id), statedBy(id, 0))
	}
}

// P14.7: the rules by falling Rank, with what they counted, and behind them what
// is gone, by rising Cookies.
func TestStatedOrder(t *testing.T) {
	a := made(t)
	for _, r := range []api.Rule{to(1, 3, 9), to(2, 5, 8), to(3, 3, 7), to(4, -5, 6)} {
		add(t, a, r)
	}
	do(t, a, ruleMessage(1, api.RuleStrict, to(2, 5, 0)), ruleMessage(1, api.RuleStrict, to(1, 3, 0)))
	take(t, a, 1, data(t, 0, 3))
	take(t, a, 1, data(t, 0, 3))
	size := uint64(len(data(t, 0, 3)))
	for range 2 {
		answers(t, a, ask(api.MsgStats, 5), statedBy(5, 0, has(to(3, 3, 7), 2, 2*size), has(to(4, -5, 6), 0, 0), lost(8, 0, 0), lost(9, 0, 0)))
	}
}

// P14.2, P14.7: every number of the least Helds, around the bounds of one, two,
// three and four messages, up to a table that is full.
func TestStatedLeast(t *testing.T) {
	const most = (api.MaxMessage - stateSize) / heldSize
	a := made(t)
	for n := range api.MaxRules + 1 {
		if n > 0 {
			add(t, a, all(-n, uint64(n)))
		}
		if r := n % most; n > 20 && r > 1 && r < most-1 && n < api.MaxRules-1 {
			continue
		}
		list := states(t, a, uint32(n))
		if want := max(1, (n+most-1)/most); len(list) != want {
			t.Errorf("%d Helds in %d messages, not %d", n, len(list), want)
		}
	}
}

// empties is a rule of that many bytes more than the least.
func empties(rank, more int) api.Rule {
	return all(rank, 1, make([][]api.Action, more/2)...)
}

// P14.2: a message of just MaxMessage bytes is one; two bytes more are not to be
// had, wherever the rule is that has them.
func TestStatedJustFull(t *testing.T) {
	const most = (api.MaxMessage - stateSize) / heldSize
	const rest = api.MaxMessage - stateSize - most*heldSize
	for _, place := range []int{0, 1, most / 2, most - 2, most - 1} {
		for _, more := range []int{rest - 2, rest, rest + 2} {
			a := made(t)
			for n := range most {
				if n == place {
					add(t, a, empties(-n, more))
				} else {
					add(t, a, empties(-n, 0))
				}
			}
			list := states(t, a, 1)
			if (len(list) == 1) != (more <= rest) {
				t.Errorf("place %d, %d bytes more: %v", place, more, counted(list))
			}
			if b, e := message.Encode(list[0]); more == rest && (len(b) != api.MaxMessage || e != api.OK) {
				t.Errorf("%d bytes, %v", len(b), e)
			}
			add(t, a, empties(-most, 0))
			if n := len(states(t, a, 1)); n != 2 {
				t.Errorf("place %d, %d bytes more, and one Held more: %d messages", place, more, n)
			}
		}
	}
}

// P14.2: two rules that just go into one message, and two that do not.
func TestStatedTwo(t *testing.T) {
	long := func(rank, n int) api.Rule {
		r := all(rank, 1)
		for n > 0 {
			r.Copies = append(r.Copies, slices.Repeat(one(out(1)), min(n, 16)))
			n -= min(n, 16)
		}
		return r
	}
	a := made(t)
	first, second := long(2, 500), long(1, 300)
	size := func() int { return stateSize + sizeOf(has(first, 0, 0)) + sizeOf(has(second, 0, 0)) }
	for size() < api.MaxMessage {
		second.Copies = append(second.Copies, nil)
	}
	if size() != api.MaxMessage {
		t.Fatal(size())
	}
	add(t, a, first)
	add(t, a, second)
	if n := len(states(t, a, 1)); n != 1 {
		t.Error(n, "messages")
	}
	second.Copies = append(second.Copies, nil)
	add(t, a, second)
	if list := states(t, a, 1); len(list) != 2 || list[0].Port != 1 || list[1].Port != 0 {
		t.Error(counted(list))
	}
}

// P14.2: a table full of the greatest rules: one a message.
func TestStatedGreatest(t *testing.T) {
	a := made(t)
	for n := range api.MaxRules {
		add(t, a, greatest(n))
	}
	list := states(t, a, math.MaxUint32)
	if len(list) != api.MaxRules {
		t.Fatal(len(list))
	}
	for i, m := range list {
		if len(m.Helds) != 1 || m.Helds[0].Rule.Rank != api.MaxRules-1-i || m.Id != math.MaxUint32 || (m.Port == 1) != (i < api.MaxRules-1) {
			t.Error(i, len(m.Helds), m.Id, m.Port)
		}
	}
}

// P14.2: each message has as many Helds as it can have: with the next one there
// would be too many. Rules of all sizes, and what is gone.
func TestStatedAnySizes(t *testing.T) {
	source := rand.New(rand.NewSource(14))
	for round := range 60 {
		a := made(t)
		for n := range source.Intn(300) {
			r := all(-n, source.Uint64())
			for range source.Intn(3) {
				r.Match.Mask[source.Intn(api.Fields)] = 1
			}
			for range source.Intn(1 + source.Intn(64)) {
				r.Copies = append(r.Copies, slices.Repeat(one(out(1)), source.Intn(1+round%10)))
			}
			add(t, a, r)
			if source.Intn(2) == 0 {
				do(t, a, ruleMessage(0, api.RuleStrict, r))
			}
		}
		list := states(t, a, uint32(round))
		for i, m := range list[:len(list)-1] {
			m.Helds = append(slices.Clone(m.Helds), list[i+1].Helds[0])
			if e := message.Check(m); e != api.ErrLong {
				t.Errorf("message %d of %d has room for one more: %v", i, len(list), e)
			}
		}
	}
}

// P14.7: many Cookies of which something is gone.
func TestStatedGone(t *testing.T) {
	a := made(t)
	for n := range uint64(3000) {
		add(t, a, all(1, n))
	}
	if list := states(t, a, 1); len(list) != 12 {
		t.Error(counted(list))
	}
}

// P14.7, R1: a rule that no message can have, which came to the switch by its
// own call, has a message of its own; none of the others is left out.
func TestStatedNoMessage(t *testing.T) {
	for _, place := range []int{0, 1, 4, 8} {
		a := made(t)
		for n := range 9 {
			rank := 10 - n
			if n == place {
				rank = math.MaxInt32 + 1
			}
			if _, e := a.Switch().Rule(api.RuleAdd, to(uint64(n), rank, 1)); e != api.OK {
				t.Fatal(e)
			}
		}
		list := a.Do(ask(api.MsgStats, 3))
		if !slices.Equal(counted(list), []int{1, 8}) {
			t.Errorf("place %d: %v", place, counted(list))
		}
		var helds []api.Held
		for i, m := range list {
			helds = append(helds, m.Helds...)
			if m.Id != 3 || m.Type != api.MsgStated || (m.Port == 1) != (i < len(list)-1) {
				t.Error(i, m)
			}
		}
		holds(t, a, helds...)
	}
	a := made(t)
	for n, rank := range []int{7, 6, math.MinInt32 - 1, math.MinInt} {
		a.Switch().Rule(api.RuleAdd, to(uint64(n), rank, 1))
	}
	if list := a.Do(ask(api.MsgStats, 3)); !slices.Equal(counted(list), []int{2, 1, 1}) {
		t.Error(counted(list))
	}
}

// most is told by message.Check alone, for whatever Helds: of none none.
func TestMost(t *testing.T) {
	if n := most(nil); n != 0 {
		t.Error(n)
	}
	for n := 1; n <= 600; n++ {
		if m := most(make([]api.Held, n)); m != min(n, 255) {
			t.Errorf("%d of %d", m, n)
		}
	}
}
