package pipeline

import (
	"bytes"
	"reflect"
	"slices"
	"testing"

	"tollbridge/api"
)

// roomy is the bytes with room behind their end, in which something stands.
func roomy(b []byte) []byte {
	return append(slices.Clone(b), 77, 78, 79)[:len(b)]
}

func spoil(b []byte) {
	b = b[:cap(b)]
	for i := range b {
		b[i] ^= 0xff
	}
}

// R3: frames that are handed in are not changed, with the room behind their
// ends.
func TestFrameIsLeftAlone(t *testing.T) {
	s := with(t, all(1, 5, one(out(2)), one(set(api.Vlan, 7), out(3)), one(puntAct())))
	for _, f := range [][]byte{plainFrame(t, 0, 1), plainFrame(t, 7, 1), arpFrame(t, 0), probeFrame(t, 0), {1}} {
		for _, port := range []uint16{1, 3, 9} {
			b, want := roomy(f), roomy(f)
			s.Take(port, b)
			s.Send(port, b)
			for _, p := range []uint16{1, 2, 3} {
				for sent, ok := s.Next(p); ok; sent, ok = s.Next(p) {
					spoil(sent)
				}
			}
			for _, m := range s.Punts() {
				spoil(m.Frame)
			}
			if !bytes.Equal(b, want) || !bytes.Equal(b[:len(b)+3], want[:len(b)+3]) {
				t.Errorf("%x, not %x", b[:len(b)+3], want[:len(b)+3])
			}
		}
	}
}

// R3: frames that are handed in are not kept.
func TestFrameIsNotKept(t *testing.T) {
	s := with(t, all(1, 5, one(out(2)), one(puntAct())))
	b, arp := roomy(plainFrame(t, 0, 1)), roomy(arpFrame(t, 0))
	take(t, s, 1, b)
	send(t, s, 2, b, api.OK)
	take(t, s, 1, arp)
	spoil(b)
	spoil(arp)
	goesOut(t, s, 2, plainFrame(t, 0, 1), plainFrame(t, 0, 1))
	punted(t, s, in(1, plainFrame(t, 0, 1)), in(1, arpFrame(t, 0)))
}

// R3: lists of ports are neither changed nor kept, with the room behind them.
func TestPortsAreNotKept(t *testing.T) {
	whole := []uint16{1, 2, 3, 4, 5}
	edge, inner := whole[:2], whole[3:4]
	s := newSwitch(t, 1, edge, inner, 8, 8)
	if !slices.Equal(whole, []uint16{1, 2, 3, 4, 5}) {
		t.Error(whole)
	}
	change(t, s, api.RuleAdd, all(1, 1, one(out(2)), one(out(3)), one(set(api.Vlan, 7), out(4))), 1)
	for i := range whole {
		whole[i] = 3
	}
	take(t, s, 1, plainFrame(t, 0, 1))
	notTaken(t, s, 3, plainFrame(t, 0, 1))
	goesOut(t, s, 2, plainFrame(t, 0, 1))
	goesOut(t, s, 3)
	goesOut(t, s, 4, plainFrame(t, 7, 1))
}

// R3: rules that are handed in are neither changed nor kept.
func TestRuleIsNotKept(t *testing.T) {
	for what := range int8(2) {
		s := with(t, all(1, 5, one(out(1))))
		r := all(1, 5, one(out(2), out(2), out(1))[:2], one(puntAct()))
		want := all(1, 5, one(out(2), out(2)), one(puntAct()))
		change(t, s, what, r, 1)
		take(t, s, 1, plainFrame(t, 0, 1))
		if !reflect.DeepEqual(r, want) || r.Copies[0][:3][2] != out(1) {
			t.Errorf("%v, not %v", r, want)
		}
		r.Copies[0][0], r.Copies[1] = out(65535), nil
		take(t, s, 1, plainFrame(t, 0, 1))
		take(t, s, 2, plainFrame(t, 0, 1))
		goesOut(t, s, 2, slices.Repeat([][]byte{plainFrame(t, 0, 1)}, 6)...)
		goesOut(t, s, 65535)
		if n := len(s.Punts()); n != 3 {
			t.Errorf("%d punts", n)
		}
	}
}

// R3: no later answer shows what the caller writes into an earlier one, and no
// two lists of one answer share memory.
func TestAnswersAreNew(t *testing.T) {
	r := all(1, 5, one(out(2)), one(puntAct()))
	s := with(t, r)
	b := plainFrame(t, 0, 1)
	h := api.Header{api.Src: 1, api.Dst: 1, api.Kind: 0x600, api.Port: 1, api.Switch: 1}
	want := hop(0, h, at(h, 2))
	for n := range uint64(4) {
		take(t, s, 1, b)
		take(t, s, 1, b)
		first, _ := s.Next(2)
		spoil(first)
		goesOut(t, s, 2, b)

		helds := s.Helds()
		helds[0].Rule.Copies[0][0], helds[0].Rule.Copies[1] = out(65535), nil
		helds[0].Counts = api.Counts{}
		holds(t, s, has(r, 3*n+2, (3*n+2)*uint64(len(b))))

		punts, hops := s.Punts(), s.Hops()
		if len(punts) != 2 || len(hops) != 2 {
			t.Fatalf("%v %v", punts, hops)
		}
		spoil(punts[0].Frame)
		hops[0].Out[0] = api.Header{}
		if !bytes.Equal(punts[1].Frame, b) || !sameHops(hops[1:], []api.Hop{want}) {
			t.Errorf("%v %v", punts, hops)
		}
		take(t, s, 1, b)
		clear(punts[:cap(punts)])
		clear(hops[:cap(hops)])
		punted(t, s, in(1, b))
		hopped(t, s, want)
		goesOut(t, s, 2, b)
	}
}

// R3: answers that were given stay as they were, whatever is done then.
func TestAnswersStay(t *testing.T) {
	r := all(1, 5, one(out(2)), one(puntAct()))
	s := with(t, r)
	b := plainFrame(t, 0, 1)
	take(t, s, 1, b)
	helds, punts, hops := s.Helds(), s.Punts(), s.Hops()
	next, _ := s.Next(2)
	for n := range uint64(100) {
		take(t, s, 1, plainFrame(t, 0, n+5))
	}
	change(t, s, api.RuleModify, all(1, 6, one(out(1))), 1)
	s.Up(2, false)
	take(t, s, 1, b)
	h := api.Header{api.Src: 1, api.Dst: 1, api.Kind: 0x600, api.Port: 1, api.Switch: 1}
	if !sameHelds(helds, []api.Held{has(r, 1, uint64(len(b)))}) || !sameHops(hops, []api.Hop{hop(0, h, at(h, 2))}) {
		t.Errorf("%v %v", helds, hops)
	}
	if !bytes.Equal(next, b) || !reflect.DeepEqual(punts, []api.Message{in(1, b)}) {
		t.Errorf("%x %v", next, punts)
	}
}

// R2: two switches to which the same was done answer alike, and know nothing of
// one another.
func TestSwitchesApart(t *testing.T) {
	a, b := with(t, all(1, 5, one(out(2)))), with(t, all(1, 6<<32, one(out(1))))
	f := plainFrame(t, 0, 1)
	take(t, a, 1, f)
	turn(t, b, 2, false, api.OK)
	goesOut(t, b, 1)
	goesOut(t, a, 2, f)
	hopped(t, b)
	punted(t, a)
	take(t, b, 1, f)
	goesOut(t, b, 1, f)
	holds(t, a, has(all(1, 5, one(out(2))), 1, uint64(len(f))))
}
