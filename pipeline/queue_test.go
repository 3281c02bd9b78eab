package pipeline

import (
	"slices"
	"testing"

	"tollbridge/api"
)

func send(t *testing.T, s *Switch, port uint16, b []byte, want api.Errno) {
	t.Helper()
	if e := s.Send(port, b); e != want {
		t.Errorf("Send(%d, %x): %v, not %v", port, b, e, want)
	}
}

func turn(t *testing.T, s *Switch, port uint16, up bool, want api.Errno) {
	t.Helper()
	if e := s.Up(port, up); e != want {
		t.Errorf("Up(%d, %t): %v, not %v", port, up, e, want)
	}
}

// P13.4: a port goes down and up; only another state than ahead is told.
func TestUp(t *testing.T) {
	s := made(t)
	for _, port := range []uint16{1, 3, 65534, 65535} {
		turn(t, s, port, true, api.OK)
		punted(t, s)
		turn(t, s, port, false, api.OK)
		turn(t, s, port, false, api.OK)
		punted(t, s, portIs(port, false))
		turn(t, s, port, false, api.OK)
		punted(t, s)
		turn(t, s, port, true, api.OK)
		turn(t, s, port, false, api.OK)
		turn(t, s, port, true, api.OK)
		turn(t, s, port, true, api.OK)
		punted(t, s, portIs(port, true), portIs(port, false), portIs(port, true))
	}
	for _, port := range []uint16{0, 4, 65533} {
		turn(t, s, port, true, api.ErrNone)
		turn(t, s, port, false, api.ErrNone)
	}
	punted(t, s)
}

// P13.4: the queue of a port is empty when its state became another, by itself
// alone; a state that stays leaves it.
func TestUpEmpties(t *testing.T) {
	s := made(t)
	a, b := plainFrame(t, 0, 1), plainFrame(t, 0, 2)
	for _, port := range []uint16{1, 2} {
		send(t, s, port, a, api.OK)
		send(t, s, port, b, api.OK)
	}
	turn(t, s, 1, true, api.OK)
	goesOut(t, s, 1, a, b)
	send(t, s, 1, a, api.OK)
	turn(t, s, 1, false, api.OK)
	goesOut(t, s, 1)
	turn(t, s, 1, true, api.OK)
	goesOut(t, s, 1)
	send(t, s, 1, b, api.OK)
	goesOut(t, s, 1, b)
	goesOut(t, s, 2, a, b)
	goesOut(t, s, 0)
	goesOut(t, s, 9)
}

// P13.4, P13.10: MsgPort is told however many punts there are.
func TestUpWithoutBound(t *testing.T) {
	s := made(t)
	arp := arpFrame(t, 0)
	var want []api.Message
	for range api.MaxQueue {
		take(t, s, 1, arp)
		want = append(want, in(1, arp))
	}
	for n := range 3 * api.MaxQueue {
		turn(t, s, 3, n%2 == 1, api.OK)
		want = append(want, portIs(3, n%2 == 1))
		take(t, s, 1, arp)
	}
	punted(t, s, want...)
}

// P13.3, P13.10: the 65th punt is dropped, by whatever way it comes; once they
// were told there is room again.
func TestPuntsFull(t *testing.T) {
	s := with(t, all(1, 5, one(puntAct())))
	frames := []struct {
		port uint16
		b    []byte
	}{{1, arpFrame(t, 0)}, {3, probeFrame(t, 0)}, {3, probeFrame(t, 9)}, {2, plainFrame(t, 0, 1)}, {65534, plainFrame(t, 7, 1)}}
	for range 2 {
		var want []api.Message
		for n := range 2 * api.MaxQueue {
			f := frames[n%len(frames)]
			take(t, s, f.port, f.b)
			want = append(want, in(f.port, f.b))
		}
		punted(t, s, want[:api.MaxQueue]...)
	}
	nothingOut(t, s)
}

// P13.3: a MsgPort is one of the punts, of which there must be fewer than
// MaxQueue.
func TestPuntsFullOfPorts(t *testing.T) {
	for _, ports := range []int{api.MaxQueue - 1, api.MaxQueue} {
		s := made(t)
		var want []api.Message
		for n := range ports {
			turn(t, s, 3, n%2 == 1, api.OK)
			want = append(want, portIs(3, n%2 == 1))
		}
		take(t, s, 1, arpFrame(t, 0))
		take(t, s, 1, arpFrame(t, 0))
		if ports < api.MaxQueue {
			want = append(want, in(1, arpFrame(t, 0)))
		}
		punted(t, s, want...)
	}
}

// P13.5: which frames may be sent by which ports.
func TestSend(t *testing.T) {
	for _, x := range []struct {
		kind, tag   uint64
		edge, inner api.Errno
	}{
		{0x600, 0, api.OK, api.ErrFrame},
		{0x600, 1, api.ErrFrame, api.OK},
		{0x600, 4095, api.ErrFrame, api.OK},
		{0x800, 0, api.OK, api.ErrFrame},
		{0x800, 7, api.ErrFrame, api.OK},
		{0x805, 0, api.OK, api.ErrFrame},
		{0x807, 0, api.OK, api.ErrFrame},
		{0x88b4, 0, api.OK, api.ErrFrame},
		{0x88b6, 0, api.OK, api.ErrFrame},
		{0xffff, 0, api.OK, api.ErrFrame},
		{0xffff, 7, api.ErrFrame, api.OK},
		{kindARP, 0, api.OK, api.OK},
		{kindARP, 7, api.ErrFrame, api.OK},
		{kindProbe, 0, api.OK, api.OK},
		{kindProbe, 7, api.ErrFrame, api.OK},
	} {
		s := with(t, all(1, 5, one(out(2)), one(puntAct())))
		b := build(t, api.Header{api.Src: 3, api.Kind: x.kind, api.Vlan: x.tag}, 2)
		for port, want := range map[uint16]api.Errno{1: x.edge, 65535: x.edge, 3: x.inner, 65534: x.inner} {
			send(t, s, port, b, want)
			if want == api.OK {
				goesOut(t, s, port, b)
			}
		}
		nothingOut(t, s)
		punted(t, s)
		hopped(t, s)
	}
}

// P13.5: what is no frame is refused; ports that are not there, or down, ahead
// of that.
func TestSendRefused(t *testing.T) {
	s := made(t)
	turn(t, s, 2, false, api.OK)
	turn(t, s, 65534, false, api.OK)
	for _, b := range [][]byte{nil, {}, {1}, plainFrame(t, 0, 1)[:13], make([]byte, 1515), append(arpFrame(t, 0), 0)} {
		for _, port := range []uint16{1, 3, 65535} {
			send(t, s, port, b, api.ErrFrame)
		}
		for _, port := range []uint16{0, 2, 4, 9, 65533, 65534} {
			send(t, s, port, b, api.ErrNone)
		}
	}
	for _, port := range []uint16{0, 2, 4, 9, 65533, 65534} {
		for _, tag := range []uint64{0, 7} {
			send(t, s, port, plainFrame(t, tag, 1), api.ErrNone)
			send(t, s, port, arpFrame(t, tag), api.ErrNone)
		}
	}
	nothingOut(t, s)
	turn(t, s, 2, true, api.OK)
	turn(t, s, 65534, true, api.OK)
	nothingOut(t, s)
}

// P13.5, P13.10: 64 frames stand in a queue, in order, and not one more, be
// they sent or put there by rules; ErrFrame stands ahead of ErrFull.
func TestQueueFull(t *testing.T) {
	s := with(t, all(1, 5, one(out(2))))
	var want [][]byte
	for n := range uint64(api.MaxQueue) {
		if b := plainFrame(t, 0, n); n%2 == 0 {
			send(t, s, 2, b, api.OK)
		} else {
			take(t, s, 1, b)
		}
		want = append(want, plainFrame(t, 0, n))
	}
	full := func() {
		t.Helper()
		send(t, s, 2, plainFrame(t, 0, 99), api.ErrFull)
		send(t, s, 2, arpFrame(t, 0), api.ErrFull)
		send(t, s, 2, plainFrame(t, 7, 99), api.ErrFrame)
		send(t, s, 2, nil, api.ErrFrame)
		take(t, s, 1, plainFrame(t, 0, 99))
		if n := len(s.ports[2].queue); n != api.MaxQueue {
			t.Errorf("%d frames in the queue", n)
		}
	}
	full()
	for n := range uint64(200) {
		b, ok := s.Next(2)
		if !ok || !slices.Equal(b, want[0]) {
			t.Fatalf("%x, %t, not %x", b, ok, want[0])
		}
		last := plainFrame(t, 0, 1000+n)
		send(t, s, 2, last, api.OK)
		want = append(want[1:], last)
		full()
	}
	goesOut(t, s, 2, want...)
	send(t, s, 1, plainFrame(t, 0, 1), api.OK)
	goesOut(t, s, 1, plainFrame(t, 0, 1))
}

// P13.10: an inner port's queue has its bound too.
func TestInnerQueueFull(t *testing.T) {
	s := made(t)
	for n := range api.MaxQueue {
		send(t, s, 3, [][]byte{plainFrame(t, 7, 1), probeFrame(t, 0), arpFrame(t, 0)}[n%3], api.OK)
	}
	send(t, s, 3, plainFrame(t, 7, 1), api.ErrFull)
	send(t, s, 3, probeFrame(t, 0), api.ErrFull)
	send(t, s, 3, plainFrame(t, 0, 1), api.ErrFrame)
	send(t, s, 65534, plainFrame(t, 7, 1), api.OK)
	turn(t, s, 3, false, api.OK)
	send(t, s, 3, plainFrame(t, 7, 1), api.ErrNone)
	turn(t, s, 3, true, api.OK)
	send(t, s, 3, plainFrame(t, 7, 2), api.OK)
	goesOut(t, s, 3, plainFrame(t, 7, 2))
}

// P13.3: while a queue is full a frame's other copies still go out, and the
// frame counts.
func TestFullBesideOthers(t *testing.T) {
	r := all(1, 5, one(out(2)), one(out(1)), one(set(api.Vlan, 7), out(3)))
	s := with(t, r)
	for range api.MaxQueue {
		send(t, s, 2, arpFrame(t, 0), api.OK)
	}
	b := plainFrame(t, 0, 1)
	take(t, s, 1, b)
	goesOut(t, s, 1, b)
	goesOut(t, s, 3, plainFrame(t, 7, 1))
	goesOut(t, s, 2, slices.Repeat([][]byte{arpFrame(t, 0)}, api.MaxQueue)...)
	holds(t, s, has(r, 1, uint64(len(b))))
}
