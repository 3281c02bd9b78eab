package arp

import (
	"bytes"
	"encoding/hex"
	"math/rand"
	"slices"
	"strings"
	"testing"

	"tollbridge/api"
	"tollbridge/frame"
	"tollbridge/header"
)

const (
	macA = 0x020000000001
	macB = 0x020000000002
	ipA  = 0x0a000001
	ipB  = 0x0a000002

	allMAC = 1<<48 - 1
	allIP  = 1<<32 - 1
)

// told is what Read tells.
type told struct {
	ask      bool
	mac      uint64
	from, to uint32
	ok       bool
}

func read(p api.Packet) told {
	ask, mac, from, to, ok := Read(p)
	return told{ask, mac, from, to, ok}
}

func wantRead(t *testing.T, p api.Packet, want told) {
	t.Helper()
	if got := read(p); got != want {
		t.Errorf("Read(%x) = %+v, want %+v", p, got, want)
	}
}

// wantRefused holds an Answer against its error, and against zeros beside it.
func wantRefused(t *testing.T, mac uint64, ask api.Packet) {
	t.Helper()
	if b, e := Answer(mac, ask); e != api.ErrFrame || len(b) != 0 {
		t.Errorf("Answer(%x, %x) = %x, %v, want ErrFrame", mac, ask, b, e)
	}
}

// wantHex holds bytes against their digits, told with blanks between the parts.
func wantHex(t *testing.T, b []byte, want string) {
	t.Helper()
	if got := hex.EncodeToString(b); got != strings.ReplaceAll(want, " ", "") {
		t.Errorf("%s, want %s", got, want)
	}
}

func parse(t *testing.T, b []byte) api.Packet {
	t.Helper()
	p, e := frame.Parse(b)
	if e != api.OK {
		t.Fatalf("frame.Parse(%x): %v", b, e)
	}
	return p
}

// packet is one whose Dst is set too, so that it is seen where Dst is told.
func packet(body string) api.Packet {
	h := api.Header{api.Src: macA, api.Dst: macB, api.Kind: 0x806, api.From: ipA, api.To: ipB}
	return api.Packet{H: h, Body: []byte(body)}
}

func with(p api.Packet, field int, n uint64) api.Packet {
	p.H[field] = n
	return p
}

// none has packets that neither ask nor answer.
func none() []api.Packet {
	list := []api.Packet{
		{},
		packet(""),
		packet("\x00"),
		packet("\x03"),
		packet("\x81"),
		packet("\xff"),
		packet("\x01\x01"),
		packet("\x02\x02"),
		packet("\x01\x00"),
		packet("\x00\x01"),
		packet(strings.Repeat("\x01", api.MaxFrame+1)),
	}
	for _, body := range []string{"\x01", "\x02"} {
		ip := with(packet(body), api.Kind, 0x800)
		other := api.Packet{H: api.Header{api.Src: macA, api.Kind: 0x88b5}, Body: []byte(body)}
		list = append(list, ip, other)
		for _, kind := range []uint64{0, 6, 0x5ff, 0x805, 0x807, 0x8100, 0x806 + 1<<16, 0x806 + 1<<32} {
			list = append(list, with(packet(body), api.Kind, kind))
		}
		for field := 0; field < api.Fields; field++ {
			width := header.Width(int8(field))
			list = append(list, with(packet(body), field, 1<<width), with(packet(body), field, 1<<63+1))
		}
		for _, field := range []int{api.Proto, api.SPort, api.DPort} {
			list = append(list, with(packet(body), field, 1), with(packet(body), field, 6))
		}
		tcp := with(with(packet(body), api.Proto, 6), api.DPort, 80)
		list = append(list, tcp, with(tcp, api.Kind, 0x800))
	}
	return list
}

// P4.1: the chapter's example, byte for byte, and one in which no two numbers are alike.
func TestAsk(t *testing.T) {
	wantHex(t, Ask(macA, ipA, ipB),
		"ffffffffffff 020000000001 0806 0001 0800 06 04 0001 020000000001 0a000001 000000000000 0a000002")
	wantHex(t, Ask(0xa1a2a3a4a5a6, 0xb1b2b3b4, 0xc1c2c3c4),
		"ffffffffffff a1a2a3a4a5a6 0806 0001 0800 06 04 0001 a1a2a3a4a5a6 b1b2b3b4 000000000000 c1c2c3c4")
}

// P4.1: the packet of the frame, field for field, at the edges of each number.
func TestAskEdges(t *testing.T) {
	for _, mac := range []uint64{0, 1, macA, 1 << 47, allMAC - 1, allMAC} {
		for _, from := range []uint32{0, 1, ipA, 1 << 31, allIP} {
			for _, to := range []uint32{0, 1, ipB, 1 << 31, allIP} {
				p := parse(t, Ask(mac, from, to))
				want := api.Header{api.Src: mac, api.Dst: allMAC, api.Kind: 0x806, api.From: uint64(from), api.To: uint64(to)}
				if p.H != want || !bytes.Equal(p.Body, []byte{1}) {
					t.Errorf("Ask(%x, %x, %x) is of %x", mac, from, to, p)
				}
			}
		}
	}
}

// P4.1: there is no frame for an address above 48 bits.
func TestAskNone(t *testing.T) {
	for _, mac := range []uint64{1 << 48, 1<<48 + macA, 1 << 63, 1<<64 - 1} {
		if b := Ask(mac, 1, 2); len(b) != 0 {
			t.Errorf("Ask(%x, 1, 2) = %x", mac, b)
		}
	}
}

// P4.2: the chapter's example, byte for byte, and one in which no two numbers are alike.
func TestAnswer(t *testing.T) {
	b, e := Answer(macB, parse(t, Ask(macA, ipA, ipB)))
	if e != api.OK {
		t.Error(e)
	}
	wantHex(t, b, "020000000001 020000000002 0806 0001 0800 06 04 0002 020000000002 0a000002 020000000001 0a000001")
	b, e = Answer(0xd1d2d3d4d5d6, parse(t, Ask(0xa1a2a3a4a5a6, 0xb1b2b3b4, 0xc1c2c3c4)))
	if e != api.OK {
		t.Error(e)
	}
	wantHex(t, b, "a1a2a3a4a5a6 d1d2d3d4d5d6 0806 0001 0800 06 04 0002 d1d2d3d4d5d6 c1c2c3c4 a1a2a3a4a5a6 b1b2b3b4")
}

// P4.2: a question's tag, port, switch and Dst are not in the answer.
func TestAnswerToTagged(t *testing.T) {
	want, _ := Answer(macB, packet("\x01"))
	if len(want) != 42 {
		t.Fatalf("%d bytes", len(want))
	}
	for _, x := range []struct{ vlan, port, sw, dst uint64 }{
		{7, 3, 9, macB}, {1, 0, 0, macB}, {4095, 65535, 65535, allMAC}, {0, 1, 0, 0}, {0, 0, 1, macA},
	} {
		ask := packet("\x01")
		ask.H[api.Vlan], ask.H[api.Port], ask.H[api.Switch], ask.H[api.Dst] = x.vlan, x.port, x.sw, x.dst
		if b, e := Answer(macB, ask); e != api.OK || !bytes.Equal(b, want) {
			t.Errorf("Answer to %x = %x, %v, want %x", ask, b, e, want)
		}
	}
}

// P4.2: the edges of the address, and an address above 48 bits.
func TestAnswerAddress(t *testing.T) {
	for _, mac := range []uint64{0, 1, 1 << 47, allMAC} {
		b, e := Answer(mac, packet("\x01"))
		if e != api.OK || parse(t, b).H[api.Src] != mac {
			t.Errorf("Answer(%x) = %x, %v", mac, b, e)
		}
	}
	for _, mac := range []uint64{1 << 48, 1<<48 + macB, 1 << 63, 1<<64 - 1} {
		wantRefused(t, mac, packet("\x01"))
		wantRefused(t, mac, packet("\x02"))
	}
}

// P4.2: what does not ask is not answered.
func TestAnswerRefused(t *testing.T) {
	wantRefused(t, macB, packet("\x02"))
	answer, _ := Answer(macB, parse(t, Ask(macA, ipA, ipB)))
	wantRefused(t, macA, parse(t, answer))
	for _, p := range none() {
		wantRefused(t, macB, p)
	}
}

// P4.3: whether it asks, its Src, From and To, whatever tag, port and switch.
func TestRead(t *testing.T) {
	for _, x := range []struct{ vlan, port, sw uint64 }{
		{0, 0, 0}, {7, 3, 9}, {1, 0, 0}, {0, 1, 0}, {0, 0, 1}, {4095, 65535, 65535},
	} {
		for body, ask := range map[string]bool{"\x01": true, "\x02": false} {
			p := packet(body)
			p.H[api.Vlan], p.H[api.Port], p.H[api.Switch] = x.vlan, x.port, x.sw
			wantRead(t, p, told{ask, macA, ipA, ipB, true})
		}
	}
}

// P4.3: the least and the greatest numbers.
func TestReadEdges(t *testing.T) {
	for _, mac := range []uint64{0, 1, allMAC} {
		for _, from := range []uint64{0, 1, allIP} {
			for _, to := range []uint64{0, 1, allIP} {
				p := with(with(with(packet("\x02"), api.Src, mac), api.From, from), api.To, to)
				wantRead(t, p, told{false, mac, uint32(from), uint32(to), true})
				p.Body = []byte{1}
				wantRead(t, p, told{true, mac, uint32(from), uint32(to), true})
			}
		}
	}
}

// P4.3: all else is false and zeros.
func TestReadNone(t *testing.T) {
	for _, p := range none() {
		wantRead(t, p, told{})
	}
	for op := 0; op < 256; op++ {
		if got := read(packet(string([]byte{byte(op)}))); got.ok != (op == 1 || op == 2) || !got.ok && got != (told{}) {
			t.Errorf("Read of Body %d = %+v", op, got)
		}
	}
}

// P4.4: there and back through frame.Parse.
func TestThereAndBack(t *testing.T) {
	chance := rand.New(rand.NewSource(4))
	macs := []uint64{0, 1, allMAC}
	numbers := []uint32{0, 1, allIP}
	for range 2000 {
		asker, answerer := chance.Uint64()>>16, chance.Uint64()>>16
		from, to := chance.Uint32(), chance.Uint32()
		if chance.Intn(2) == 0 {
			asker, answerer = macs[chance.Intn(3)], macs[chance.Intn(3)]
			from, to = numbers[chance.Intn(3)], numbers[chance.Intn(3)]
		}
		ask := parse(t, Ask(asker, from, to))
		wantRead(t, ask, told{true, asker, from, to, true})
		b, e := Answer(answerer, ask)
		if e != api.OK {
			t.Fatalf("Answer(%x, %x): %v", answerer, ask, e)
		}
		answer := parse(t, b)
		wantRead(t, answer, told{false, answerer, to, from, true})
		if answer.H[api.Dst] != asker {
			t.Errorf("the answer to %x goes to %x", asker, answer.H[api.Dst])
		}
	}
}

// someHeader is often a header of Kind 0x806 that is one, and often nearly one.
func someHeader(chance *rand.Rand) api.Header {
	h := api.Header{api.Kind: 0x806}
	for _, field := range []int{api.Src, api.Dst, api.Vlan, api.From, api.To, api.Port, api.Switch} {
		h[field] = chance.Uint64() >> (64 - header.Width(int8(field)))
	}
	if chance.Intn(2) == 0 {
		field := chance.Intn(api.Fields)
		h[field] = []uint64{0, 1, 6, 17, 0x800, 1 << header.Width(int8(field)), chance.Uint64()}[chance.Intn(7)]
	}
	return h
}

// The Words: which packets ask and answer, as the chapter tells it.
func does(p api.Packet, op byte) bool {
	return p.H[api.Kind] == 0x806 && header.Check(p.H) == api.OK && bytes.Equal(p.Body, []byte{op})
}

// P4.2, P4.3: held against a plain telling of the chapter's words.
func TestAgainstWords(t *testing.T) {
	chance := rand.New(rand.NewSource(44))
	bodies := []string{"", "\x00", "\x01", "\x01", "\x01", "\x02", "\x02", "\x03", "\x01\x02"}
	var some, answered int
	for range 20000 {
		p := api.Packet{H: someHeader(chance), Body: []byte(bodies[chance.Intn(len(bodies))])}
		var want told
		if does(p, 1) || does(p, 2) {
			want = told{does(p, 1), p.H[api.Src], uint32(p.H[api.From]), uint32(p.H[api.To]), true}
			some++
		}
		wantRead(t, p, want)
		mac := chance.Uint64() >> (14 + chance.Intn(3))
		if !does(p, 1) || mac>>48 != 0 {
			wantRefused(t, mac, p)
			continue
		}
		answered++
		b, e := Answer(mac, p)
		h := api.Header{api.Src: mac, api.Dst: p.H[api.Src], api.Kind: 0x806, api.From: p.H[api.To], api.To: p.H[api.From]}
		if got := parse(t, b); e != api.OK || got.H != h || !bytes.Equal(got.Body, []byte{2}) {
			t.Errorf("Answer(%x, %x) = %x, %v", mac, p, got, e)
		}
	}
	if some < 1000 || answered < 1000 {
		t.Errorf("only %d packets were some, %d answered", some, answered)
	}
}

// P4.2, P4.3: what is handed in stays as it was, with the room behind its end.
func TestHandedInStays(t *testing.T) {
	for _, op := range []byte{0, 1, 2, 3} {
		room := []byte{op, 0xaa, 0xbb}
		p := packet("")
		p.Body = room[:1]
		was := p.H
		Read(p)
		Answer(macB, p)
		if p.H != was || len(p.Body) != 1 || !slices.Equal(room, []byte{op, 0xaa, 0xbb}) {
			t.Errorf("Body %d is now %x", op, room)
		}
	}
}

// P4.1, P4.2: what is handed out is new memory, on which no later answer hangs.
func TestHandedOutIsNew(t *testing.T) {
	ask := Ask(macA, ipA, ipB)
	question := parse(t, ask)
	was := slices.Clone(ask)
	answer, _ := Answer(macB, question)
	wasAnswer := slices.Clone(answer)
	for _, b := range [][]byte{ask, answer} {
		b = b[:cap(b)]
		for i := range b {
			b[i] = 0xee
		}
	}
	if b := Ask(macA, ipA, ipB); !bytes.Equal(b, was) {
		t.Errorf("Ask = %x, want %x", b, was)
	}
	if b, _ := Answer(macB, question); !bytes.Equal(b, wasAnswer) {
		t.Errorf("Answer = %x, want %x", b, wasAnswer)
	}
	if !bytes.Equal(question.Body, []byte{1}) {
		t.Errorf("Body is now %x", question.Body)
	}
}
