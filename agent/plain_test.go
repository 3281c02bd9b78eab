package agent

import (
	"bytes"
	"math"
	"math/rand"
	"slices"
	"testing"

	"tollbridge/api"
	"tollbridge/message"
	"tollbridge/pipeline"
)

// plain is an agent as the chapter's words have it, told Type by Type. Its
// switch is never asked through a cache.
type plain struct {
	sw   *pipeline.Switch
	told bool
}

func newPlain(t *testing.T) *plain {
	t.Helper()
	sw, e := pipeline.New(7, []uint16{2, 1}, []uint16{4, 3}, 12, 0)
	if e != api.OK {
		t.Fatal(e)
	}
	return &plain{sw: sw}
}

func (p *plain) do(m api.Message) []api.Message {
	if message.Check(m) != api.OK {
		return []api.Message{refusal(m.Id, api.ErrMessage)}
	}
	var code api.Errno
	switch m.Type {
	case api.MsgHello, api.MsgAsk:
		return []api.Message{features(m.Id, 7, []uint16{1, 2, 3, 4}, []uint16{1, 2})}
	case api.MsgEcho:
		return []api.Message{ask(api.MsgEchoed, m.Id)}
	case api.MsgRule:
		_, code = p.sw.Rule(m.Do, m.Rule)
	case api.MsgOut:
		code = p.sw.Send(m.Port, m.Frame)
	case api.MsgBarrier:
		return []api.Message{ask(api.MsgBarred, m.Id)}
	case api.MsgStats:
		return cutBySizes(m.Id, p.sw.Helds())
	case api.MsgEchoed:
	default:
		code = api.ErrMessage
	}
	if code == api.OK {
		return nil
	}
	return []api.Message{refusal(m.Id, code)}
}

func (p *plain) tell() []api.Message {
	list := p.sw.Punts()
	if !p.told {
		list = slices.Insert(list, 0, hello())
	}
	p.told = true
	return list
}

// chance makes messages and frames, of few kinds, so that they meet.
type chance struct {
	*rand.Rand
	frames [][]byte
}

func newChance(t *testing.T, seed int64) chance {
	c := chance{Rand: rand.New(rand.NewSource(seed))}
	for n := range uint64(4) {
		c.frames = append(c.frames, data(t, 0, n), data(t, 5, n), arpFrame(t, n))
	}
	c.frames = append(c.frames, probeFrame(t), nil, []byte{1, 2, 3}, make([]byte, 9000))
	return c
}

func (c chance) frame() []byte {
	return c.frames[c.Intn(len(c.frames))]
}

func (c chance) port() uint16 {
	return uint16(c.Intn(6))
}

func (c chance) action() api.Action {
	switch c.Intn(6) {
	case 0:
		return punt()
	case 1:
		return api.Action{Do: api.ActSet, Field: int8(c.Intn(12)), N: uint64(c.Intn(3))}
	case 2:
		return api.Action{Do: api.ActSet, Field: api.Vlan, N: 5}
	default:
		return out(uint64(c.port()))
	}
}

func (c chance) rule() api.Rule {
	r := to(uint64(c.Intn(4)), c.Intn(4), uint64(c.Intn(3))<<32)
	if c.Intn(4) == 0 {
		r.Match = api.Match{}
	}
	if c.Intn(30) == 0 {
		r.Match.Value[api.Kind] = 1
	}
	if c.Intn(30) == 0 {
		r.Rank = math.MaxInt
	}
	for range c.Intn(3) {
		list := []api.Action{}
		for range c.Intn(4) {
			list = append(list, c.action())
		}
		r.Copies = append(r.Copies, list)
	}
	if c.Intn(6) == 0 {
		r.Copies = slices.Repeat([][]api.Action{slices.Repeat(one(out(2)), 16)}, 20+c.Intn(40))
	}
	return r
}

func (c chance) message() api.Message {
	m := ask(int8(c.Intn(16)-1), c.Uint32())
	if c.Intn(2) == 0 {
		m.Type = []int8{api.MsgRule, api.MsgOut}[c.Intn(2)]
	}
	if m.Type == api.MsgRule || c.Intn(40) == 0 {
		m.Do, m.Rule = int8(c.Intn(4)), c.rule()
		if m.Do == api.RuleDelete && c.Intn(3) > 0 {
			m.Do = api.RuleAdd
		}
	}
	if m.Type == api.MsgOut || m.Type == api.MsgIn || c.Intn(40) == 0 {
		m.Port, m.Frame = c.port(), c.frame()
	}
	return m
}

// sizes are those of the caches (P13.9).
func sizes() []int {
	return []int{0, 1, 2, 3, 7, 64, 1024, 1025, -1, math.MaxInt}
}

// P14.1 to P14.7, P13.9: agents with caches of any size do what the plain one
// does, call by call.
func TestAsThePlainOne(t *testing.T) {
	for seed := range int64(30) {
		c, p := newChance(t, seed), newPlain(t)
		var all []*Agent
		for _, size := range sizes() {
			all = append(all, newAgent(t, 7, []uint16{2, 1}, []uint16{4, 3}, 12, size))
		}
		for range 300 {
			oneCall(t, c, p, all)
		}
		hops := p.sw.Hops()
		for _, a := range all {
			sameMessagesToldBy(t, p.do(ask(api.MsgStats, 1)), a.Do(ask(api.MsgStats, 1)))
			if got := a.Switch().Hops(); len(hops) == 0 || !slices.EqualFunc(got, hops, sameHop) {
				t.Errorf("Hops: %v, not %v", got, hops)
			}
		}
	}
}

func sameHop(a, b api.Hop) bool {
	return a.Step == b.Step && a.Policy == b.Policy && a.In == b.In && slices.Equal(a.Out, b.Out)
}

func oneCall(t *testing.T, c chance, p *plain, all []*Agent) {
	t.Helper()
	port, b, m, up := c.port(), c.frame(), c.message(), c.Intn(3) > 0
	switch c.Intn(8) {
	case 0:
		want := p.sw.Up(port, up)
		for _, a := range all {
			turn(t, a, port, up, want)
		}
	case 1:
		want := p.tell()
		for _, a := range all {
			sameMessagesToldBy(t, want, a.Tell())
		}
	case 2:
		want, there := p.sw.Next(port)
		for _, a := range all {
			if got, ok := a.Switch().Next(port); ok != there || !bytes.Equal(got, want) {
				t.Errorf("Next(%d): %x, not %x", port, got, want)
			}
		}
	case 3, 4:
		want := p.sw.Take(port, b)
		for _, a := range all {
			if e := a.Switch().Take(port, b); e != want {
				t.Errorf("Take(%d, %x): %v, not %v", port, b, e, want)
			}
		}
	default:
		want := p.do(m)
		for _, a := range all {
			sameMessagesToldBy(t, want, a.Do(m))
		}
	}
}

func sameMessagesToldBy(t *testing.T, want, got []api.Message) {
	t.Helper()
	if !sameMessages(want, got) {
		t.Fatalf("%v, not %v", got, want)
	}
	areMessages(t, got)
}
