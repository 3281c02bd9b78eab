package frame

import (
	"bytes"
	"encoding/hex"
	"math/rand"
	"slices"
	"strings"
	"testing"

	"tollbridge/api"
	"tollbridge/header"
)

const (
	macA = 0x02a1a2a3a4a5
	macB = 0x02b1b2b3b4b5
	ipA  = 0x0a000001
	ipB  = 0x0a000002
)

// sample is a frame with its packet, and which of its bytes the form fixes (a
// length, a sum, and what is told twice are fixed by the others).
type sample struct {
	name  string
	bytes string
	p     api.Packet
	fixed []int
}

func packet(body string, h api.Header) api.Packet {
	h[api.Dst], h[api.Src] = macB, macA
	return api.Packet{H: h, Body: []byte(body)}
}

func span(from, to int) []int {
	var list []int
	for i := from; i < to; i++ {
		list = append(list, i)
	}
	return list
}

const macs = "02b1b2b3b4b5 02a1a2a3a4a5 "

// untagged has a frame of every form, byte for byte.
func untagged() []sample {
	arpFixed := append(span(14, 28), span(32, 38)...)
	ipFixed := append(span(14, 23), 24, 25)
	return []sample{
		{"ask", macs + "0806 0001 0800 06 04 0001 02a1a2a3a4a5 0a000001 000000000000 0a000002",
			packet("\x01", api.Header{api.Kind: 0x806, api.From: ipA, api.To: ipB}), arpFixed},
		{"answer", macs + "0806 0001 0800 06 04 0002 02a1a2a3a4a5 0a000001 02b1b2b3b4b5 0a000002",
			packet("\x02", api.Header{api.Kind: 0x806, api.From: ipA, api.To: ipB}), arpFixed},
		{"tcp", macs + "0800 45 00 002b 0000 0000 40 06 66cb 0a000001 0a000002" +
			"c001 0050 0000000000000000 50 10 000000000000 616263",
			packet("abc", api.Header{api.Kind: 0x800, api.From: ipA, api.To: ipB, api.Proto: 6, api.SPort: 0xc001, api.DPort: 80}),
			append(slices.Clone(ipFixed), span(38, 54)...)},
		{"tcp, empty", macs + "0800 45 00 0028 0000 0000 40 06 66ce 0a000001 0a000002" +
			"c001 0050 0000000000000000 50 10 000000000000",
			packet("", api.Header{api.Kind: 0x800, api.From: ipA, api.To: ipB, api.Proto: 6, api.SPort: 0xc001, api.DPort: 80}),
			append(slices.Clone(ipFixed), span(38, 54)...)},
		{"udp", macs + "0800 45 00 001e 0000 0000 40 11 66cd 0a000001 0a000002 0035 c002 000a 0000 6162",
			packet("ab", api.Header{api.Kind: 0x800, api.From: ipA, api.To: ipB, api.Proto: 17, api.SPort: 53, api.DPort: 0xc002}),
			append(slices.Clone(ipFixed), span(38, 42)...)},
		{"udp, empty", macs + "0800 45 00 001c 0000 0000 40 11 66cf 0a000001 0a000002 0035 c002 0008 0000",
			packet("", api.Header{api.Kind: 0x800, api.From: ipA, api.To: ipB, api.Proto: 17, api.SPort: 53, api.DPort: 0xc002}),
			append(slices.Clone(ipFixed), span(38, 42)...)},
		{"ip", macs + "0800 45 00 0015 0000 0000 40 01 66e6 0a000001 0a000002 09",
			packet("\x09", api.Header{api.Kind: 0x800, api.From: ipA, api.To: ipB, api.Proto: 1}), ipFixed},
		{"ip, empty", macs + "0800 45 00 0014 0000 0000 40 00 7ae8 00000001 00000002",
			packet("", api.Header{api.Kind: 0x800, api.From: 1, api.To: 2}), ipFixed},
		{"other", macs + "88b5 07", packet("\x07", api.Header{api.Kind: 0x88b5}), nil},
		{"other, empty", macs + "0600", packet("", api.Header{api.Kind: 0x600}), nil},
	}
}

// samples has each of them without a tag, and with one.
func samples() []sample {
	list := untagged()
	for _, s := range untagged() {
		s.name += ", tagged"
		s.bytes = macs + "8100 0fa5" + strings.TrimPrefix(s.bytes, macs)
		s.p.H[api.Vlan] = 0xfa5
		s.fixed = slices.Clone(s.fixed)
		for i := range s.fixed {
			s.fixed[i] += 4
		}
		list = append(list, s)
	}
	return list
}

func unhex(t *testing.T, text string) []byte {
	t.Helper()
	b, err := hex.DecodeString(strings.ReplaceAll(text, " ", ""))
	if err != nil {
		t.Fatal(err)
	}
	return b
}

func wantPacket(t *testing.T, b []byte, want api.Packet) {
	t.Helper()
	p, e := Parse(b)
	if e != api.OK || p.H != want.H || !bytes.Equal(p.Body, want.Body) {
		t.Errorf("Parse(%x) = %x, %v, want %x", b, p, e, want)
	}
}

func wantNone(t *testing.T, b []byte) {
	t.Helper()
	if p, e := Parse(b); e != api.ErrFrame || p.H != (api.Header{}) || len(p.Body) != 0 {
		t.Errorf("Parse(%x) = %x, %v, want ErrFrame", b, p, e)
	}
}

func wantBytes(t *testing.T, p api.Packet, want []byte) {
	t.Helper()
	if b, e := Build(p); e != api.OK || !bytes.Equal(b, want) {
		t.Errorf("Build(%x) = %x, %v, want %x", p, b, e, want)
	}
}

func wantRefused(t *testing.T, p api.Packet, want api.Errno) {
	t.Helper()
	if b, e := Build(p); e != want || len(b) != 0 {
		t.Errorf("Build(%x) = %x, %v, want %v", p, b, e, want)
	}
}

// kindAt is where Kind stands.
func kindAt(b []byte) int {
	if b[12] == 0x81 && b[13] == 0 {
		return 16
	}
	return 12
}

// mend writes the lengths and the sum of an IPv4 frame anew, as far as it has
// room for them, so that a fault elsewhere is not told by them.
func mend(b []byte) []byte {
	ip := b[kindAt(b)+2:]
	if len(ip) < 12 {
		return b
	}
	ip[2], ip[3] = byte(len(ip)>>8), byte(len(ip))
	ip[10], ip[11] = 0, 0
	sum := slowSum(ip[:min(20, len(ip))])
	ip[10], ip[11] = byte(sum>>8), byte(sum)
	if ip[9] == 17 && len(ip) >= 26 {
		ip[24], ip[25] = byte((len(ip)-20)>>8), byte(len(ip)-20)
	}
	return b
}

func isIP(s sample) bool  { return s.p.H[api.Kind] == 0x800 }
func isARP(s sample) bool { return s.p.H[api.Kind] == 0x806 }

// P3.1, P3.2, P3.4: a frame of every form, there and back.
func TestEveryForm(t *testing.T) {
	for _, s := range samples() {
		b := unhex(t, s.bytes)
		t.Run(s.name, func(t *testing.T) {
			wantPacket(t, b, s.p)
			wantBytes(t, s.p, b)
			if isIP(s) && !bytes.Equal(mend(slices.Clone(b)), b) {
				t.Errorf("mend changes %x", b)
			}
		})
	}
}

// P3.1, P3.2, P3.3: the chapter's examples.
func TestExamples(t *testing.T) {
	b := unhex(t, "ffffffffffff 000000000001 88b5 07")
	p := api.Packet{H: api.Header{api.Dst: 1<<48 - 1, api.Src: 1, api.Kind: 0x88b5}, Body: []byte{7}}
	wantPacket(t, b, p)
	wantBytes(t, p, b)
	wantNone(t, b[:13])
	wantNone(t, unhex(t, macs+"8100 0000 88b5 07"))
	wantNone(t, unhex(t, macs+"8100 0005 8100 0005 88b5 07"))
	wantRefused(t, api.Packet{H: api.Header{api.Kind: 0x806}, Body: []byte{3}}, api.ErrFrame)
	if sum := Sum(unhex(t, "45 00 0014 0000 0000 40 11 0000 0a000001 0a000002")); sum != 0x66d7 {
		t.Errorf("Sum = %x, want 66d7", sum)
	}
}

// P3.1, P3.2: tags of 1 to 4095, and none else.
func TestTag(t *testing.T) {
	for tag := range 1 << 16 {
		b := appendNumber(unhex(t, macs+"8100"), 2, uint64(tag))
		b = append(b, 6, 0)
		if tag < 1 || tag > 4095 {
			wantNone(t, b)
			continue
		}
		p := packet("", api.Header{api.Kind: 0x600, api.Vlan: uint64(tag)})
		wantPacket(t, b, p)
		wantBytes(t, p, b)
	}
	for _, tag := range []uint64{4096, 1 << 16, 1<<16 | 5, 1<<64 - 1} {
		wantRefused(t, packet("", api.Header{api.Kind: 0x600, api.Vlan: tag}), api.ErrField)
	}
	for _, inner := range []string{"8100 0005 0600", "8100 0005 8100 0005 0600", "8100 0600", "8100"} {
		wantNone(t, unhex(t, macs+"8100 0005"+inner))
	}
	wantRefused(t, packet("", api.Header{api.Kind: 0x8100, api.Vlan: 5}), api.ErrField)
}

// P3.1, P3.2: every Kind, without a tag and with one.
func TestKind(t *testing.T) {
	for kind := range uint64(1 << 16) {
		if kind == 0x800 || kind == 0x806 {
			continue
		}
		p := packet("xyz!", api.Header{api.Kind: kind})
		tagged := packet("xyz!", api.Header{api.Kind: kind, api.Vlan: 1})
		b := append(appendNumber(unhex(t, macs), 2, kind), "xyz!"...)
		withTag := append(appendNumber(unhex(t, macs+"8100 0001"), 2, kind), "xyz!"...)
		if kind < 0x600 || kind == 0x8100 {
			wantNone(t, b)
			wantNone(t, withTag)
			wantRefused(t, p, api.ErrField)
			wantRefused(t, tagged, api.ErrField)
			continue
		}
		wantPacket(t, b, p)
		wantPacket(t, withTag, tagged)
		wantBytes(t, p, b)
		wantBytes(t, tagged, withTag)
	}
}

// P3.1: bytes that end early, at every place. What stands behind Kind in other
// Kinds, and behind IPv4's heads, may be of any length.
func TestEndsEarly(t *testing.T) {
	for _, s := range samples() {
		b := unhex(t, s.bytes)
		ahead := len(b) - len(s.p.Body)
		if isARP(s) {
			ahead = len(b)
		}
		for n := range len(b) {
			cut := slices.Clone(b[:n])
			if n < ahead {
				wantNone(t, cut)
			}
			if !isIP(s) || n < kindAt(b)+2 {
				continue
			}
			wantNone(t, cut)
			if mend(cut); n < ahead {
				wantNone(t, cut)
			} else {
				wantPacket(t, cut, api.Packet{H: s.p.H, Body: s.p.Body[:n-ahead]})
			}
		}
	}
}

// P3.1: bytes behind the end: none behind ARP's, nor behind what IPv4's length
// tells; in other Kinds they are the Body's.
func TestGoesOn(t *testing.T) {
	for _, s := range samples() {
		b := append(unhex(t, s.bytes), 0)
		if isARP(s) || isIP(s) {
			wantNone(t, b)
		} else {
			wantPacket(t, b, api.Packet{H: s.p.H, Body: append(slices.Clone(s.p.Body), 0)})
		}
		if isIP(s) {
			wantPacket(t, mend(b), api.Packet{H: s.p.H, Body: append(slices.Clone(s.p.Body), 0)})
		}
	}
}

// P3.1: each fixed byte of every form, changed to every other.
func TestFixedBytes(t *testing.T) {
	for _, s := range samples() {
		b := unhex(t, s.bytes)
		for _, at := range s.fixed {
			for change := 1; change < 256; change++ {
				bad := slices.Clone(b)
				bad[at] ^= byte(change)
				wantNone(t, bad)
			}
		}
	}
}

// P3.1: a fixed byte of IPv4's that is changed is found by itself too, not by
// the sum alone.
func TestFixedBytesWithSum(t *testing.T) {
	for _, s := range samples() {
		b := unhex(t, s.bytes)
		if !isIP(s) {
			continue
		}
		ip := kindAt(b) + 2
		for _, at := range []int{0, 1, 4, 5, 6, 7, 8} {
			for change := 1; change < 256; change++ {
				bad := slices.Clone(b)
				bad[ip+at] ^= byte(change)
				wantNone(t, mend(bad))
			}
		}
	}
}

// P3.1: an ARP frame's operation, and the MACs that it tells again.
func TestARPTwice(t *testing.T) {
	for op := range 1 << 16 {
		for _, target := range []string{"000000000000", "02b1b2b3b4b5"} {
			b := appendNumber(unhex(t, macs+"0806 0001 0800 06 04"), 2, uint64(op))
			b = append(b, unhex(t, "02a1a2a3a4a5 0a000001"+target+"0a000002")...)
			if op == 1 && target == "000000000000" || op == 2 && target == "02b1b2b3b4b5" {
				wantPacket(t, b, packet(string(rune(op)), api.Header{api.Kind: 0x806, api.From: ipA, api.To: ipB}))
			} else {
				wantNone(t, b)
			}
		}
	}
	for _, s := range samples() {
		if !isARP(s) {
			continue
		}
		b := unhex(t, s.bytes)
		b[11]++
		wantNone(t, b)
		b[kindAt(b)+2+13]++
		s.p.H[api.Src]++
		wantPacket(t, b, s.p)
		b[5]++
		if s.p.H[api.Dst]++; s.p.Body[0] == 1 {
			wantPacket(t, b, s.p)
			continue
		}
		wantNone(t, b)
		b[kindAt(b)+2+23]++
		wantPacket(t, b, s.p)
	}
}

// P3.1: IPv4's length, UDP's length and the sum, one off and further, each with
// the sum right for what is told.
func TestLengthsAndSum(t *testing.T) {
	for _, s := range samples() {
		if !isIP(s) {
			continue
		}
		ip := kindAt(unhex(t, s.bytes)) + 2
		places := []int{2, 10}
		if s.p.H[api.Proto] == 17 {
			places = append(places, 24)
		}
		for _, at := range places {
			for _, off := range []int{1, -1, 2, -2, 4, -4, 14, -14, 20, -20, 256, 0x8000} {
				b := unhex(t, s.bytes)
				n := int(b[ip+at])<<8 | int(b[ip+at+1]) + off
				b[ip+at], b[ip+at+1] = byte(n>>8), byte(n)
				wantNone(t, b)
				if at == 2 {
					b[ip+10], b[ip+11] = 0, 0
					sum := slowSum(b[ip : ip+20])
					b[ip+10], b[ip+11] = byte(sum>>8), byte(sum)
					wantNone(t, b)
				}
			}
		}
	}
}

// P3.1, P3.4: a sum of 0 has one form: the other zero, with every bit, is none.
func TestSumOfZero(t *testing.T) {
	p := packet("", api.Header{api.Kind: 0x800, api.To: 0x7aeb})
	b, e := Build(p)
	if e != api.OK || b[24] != 0 || b[25] != 0 {
		t.Fatalf("Build(%x) = %x, %v, want a sum of 0", p, b, e)
	}
	wantPacket(t, b, p)
	b[24], b[25] = 0xff, 0xff
	if Sum(b[14:]) != 0 {
		t.Fatalf("Sum(%x) is not 0", b[14:])
	}
	wantNone(t, b)
}

// P3.1, P3.2: MaxFrame bytes, and one more, in every form that has a Body.
func TestLongest(t *testing.T) {
	for _, s := range samples() {
		if isARP(s) {
			continue
		}
		longest := api.MaxFrame
		if s.p.H[api.Vlan] != 0 {
			longest += 4
		}
		ahead := unhex(t, s.bytes)
		ahead = ahead[:len(ahead)-len(s.p.Body)]
		for _, length := range []int{longest - 1, longest, longest + 1, longest + 4, longest + 5, 1 << 16, 1<<16 + len(ahead), 1 << 17} {
			p := api.Packet{H: s.p.H, Body: bytes.Repeat([]byte{0xa5}, length-len(ahead))}
			b := append(slices.Clone(ahead), p.Body...)
			if isIP(s) {
				mend(b)
			}
			if length <= longest {
				wantPacket(t, b, p)
				wantBytes(t, p, b)
			} else {
				wantNone(t, b)
				wantRefused(t, p, api.ErrLong)
			}
		}
	}
}

// P3.2: what header.Check refuses, ahead of all else; Port and Switch too must
// have no more bits than a header's.
func TestBuildNoHeader(t *testing.T) {
	for _, h := range []api.Header{
		{}, {api.Kind: 0x5ff}, {api.Kind: 0x8100}, {api.Kind: 1 << 16}, {api.Kind: 0x10806}, {api.Kind: 0x10800},
		{api.Kind: 0x600, api.Src: 1 << 48}, {api.Kind: 0x600, api.Dst: 1 << 48}, {api.Kind: 0x600, api.Vlan: 4096},
		{api.Kind: 0x600, api.Port: 1 << 16}, {api.Kind: 0x600, api.Switch: 1 << 16},
		{api.Kind: 0x600, api.From: 1}, {api.Kind: 0x600, api.To: 1}, {api.Kind: 0x600, api.Proto: 6},
		{api.Kind: 0x800, api.From: 1 << 32}, {api.Kind: 0x800, api.To: 1 << 32}, {api.Kind: 0x800, api.Proto: 256},
		{api.Kind: 0x800, api.SPort: 1}, {api.Kind: 0x800, api.Proto: 1, api.DPort: 1},
		{api.Kind: 0x800, api.Proto: 6, api.SPort: 1 << 16}, {api.Kind: 0x800, api.Proto: 17, api.DPort: 1 << 16},
		{api.Kind: 0x806, api.Proto: 6}, {api.Kind: 0x806, api.From: 1 << 32}, {api.Kind: 0x806, api.Src: 1 << 48},
	} {
		if e := header.Check(h); e != api.ErrField {
			t.Fatalf("header.Check(%x) = %v", h, e)
		}
		for _, body := range [][]byte{nil, {1}, {3}, {1, 2}, make([]byte, 2000)} {
			wantRefused(t, api.Packet{H: h, Body: body}, api.ErrField)
		}
	}
}

// P3.2: ARP's Body is the operation's one byte; that is asked ahead of lengths.
func TestBuildARPBody(t *testing.T) {
	for _, vlan := range []uint64{0, 7} {
		h := api.Header{api.Kind: 0x806, api.Src: macA, api.Vlan: vlan}
		for _, body := range [][]byte{nil, {}, {1, 1}, {1, 2}, {0, 1}, {2, 0}, make([]byte, 1472), make([]byte, 1501), make([]byte, 2000)} {
			wantRefused(t, api.Packet{H: h, Body: body}, api.ErrFrame)
		}
		for op := range 256 {
			p := api.Packet{H: h, Body: []byte{byte(op)}}
			if op != 1 && op != 2 {
				wantRefused(t, p, api.ErrFrame)
			} else if _, e := Build(p); e != api.OK {
				t.Errorf("Build of operation %d: %v", op, e)
			}
		}
	}
}

// P3.2, P3.4: where a packet is does not show.
func TestBuildAnywhere(t *testing.T) {
	for _, s := range samples() {
		b := unhex(t, s.bytes)
		p := s.p
		p.H[api.Port], p.H[api.Switch] = 3, 0xffff
		wantBytes(t, p, b)
		p.H[api.Port], p.H[api.Switch] = 0xffff, 1
		wantBytes(t, p, b)
		wantPacket(t, b, s.p)
	}
}

// slowSum tells the sum by what is left over of 65535, of which no number but 0
// has 0 left.
func slowSum(b []byte) uint16 {
	var total, any uint64
	for i := 0; i < len(b); i += 2 {
		n := uint64(b[i]) * 256
		if i+1 < len(b) {
			n += uint64(b[i+1])
		}
		total = (total + n) % 65535
		any |= n
	}
	if any != 0 && total == 0 {
		total = 65535
	}
	return uint16(65535 - total)
}

// P3.3: short ones, a last byte alone, what runs over twice, and long ones.
func TestSum(t *testing.T) {
	for _, c := range []struct {
		bytes string
		want  uint16
	}{
		{"", 0xffff}, {"00", 0xffff}, {"0000", 0xffff}, {"01", 0xfeff}, {"0001", 0xfffe}, {"0100", 0xfeff},
		{"ff", 0x00ff}, {"ffff", 0}, {"ffff0001", 0xfffe}, {"ffffffff", 0}, {"8000 8000", 0xfffe},
		{"ffff ffff 0001", 0xfffe}, {"ffff ffff 0002", 0xfffd}, {"1234 56", 0x97cb}, {"ffff ff", 0x00ff},
	} {
		if got := Sum(unhex(t, c.bytes)); got != c.want {
			t.Errorf("Sum(%s) = %04x, want %04x", c.bytes, got, c.want)
		}
	}
	if got := Sum(nil); got != 0xffff {
		t.Errorf("Sum(nil) = %04x", got)
	}
	r := rand.New(rand.NewSource(1))
	for length := range 300 {
		for range 20 {
			wantSum(t, anyBytes(r, length))
		}
	}
	for _, length := range []int{1 << 17, 1<<17 + 1, 1<<20 + 2, 1<<20 + 3} {
		wantSum(t, bytes.Repeat([]byte{0xff}, length))
		wantSum(t, bytes.Repeat([]byte{0xff, 0xfe}, length/2))
		wantSum(t, anyBytes(r, length))
	}
}

func wantSum(t *testing.T, b []byte) {
	t.Helper()
	if got, want := Sum(b), slowSum(b); got != want {
		t.Errorf("Sum of %d bytes (%x ..) = %04x, want %04x", len(b), b[:min(40, len(b))], got, want)
	}
}

// anyBytes has often zeros, and often 255s.
func anyBytes(r *rand.Rand, length int) []byte {
	b := make([]byte, length)
	r.Read(b)
	ends := r.Intn(3)
	for i := range b {
		if ends == 1 && r.Intn(8) > 0 {
			b[i] = 0
		} else if ends == 2 && r.Intn(8) > 0 {
			b[i] = 0xff
		}
	}
	return b
}

// P3.5: bytes of an even number with their sum behind them have the sum 0.
func TestSumBehind(t *testing.T) {
	r := rand.New(rand.NewSource(2))
	for length := 0; length < 200; length += 2 {
		for range 50 {
			b := anyBytes(r, length)
			if sum := Sum(appendNumber(b, 2, uint64(Sum(b)))); sum != 0 {
				t.Fatalf("Sum of %x and its sum = %04x", b, sum)
			}
		}
	}
	if sum := Sum(make([]byte, 8)); sum != 0xffff || Sum(append(make([]byte, 8), 0xff, 0xff)) != 0 {
		t.Errorf("Sum of zeros = %04x", sum)
	}
}

// anyPacket is always one that can be built.
func anyPacket(r *rand.Rand) api.Packet {
	kinds := []uint64{0x600, 0x88b5, 0xffff, 0x806, 0x806, 0x800, 0x800, 0x800, 0x800}
	h := api.Header{api.Kind: kinds[r.Intn(len(kinds))]}
	fields := []int{api.Src, api.Dst, api.Port, api.Switch}
	if r.Intn(2) == 0 {
		fields = append(fields, api.Vlan)
	}
	body := anyBytes(r, r.Intn(30))
	switch h[api.Kind] {
	case 0x806:
		fields = append(fields, api.From, api.To)
		body = []byte{byte(1 + r.Intn(2))}
	case 0x800:
		fields = append(fields, api.From, api.To)
		h[api.Proto] = []uint64{0, 1, 6, 6, 17, 17, 255}[r.Intn(7)]
		if h[api.Proto] == 6 || h[api.Proto] == 17 {
			fields = append(fields, api.SPort, api.DPort)
		}
	}
	for _, field := range fields {
		end := uint64(1)<<header.Width(int8(field)) - 1
		h[field] = []uint64{0, 1, end, r.Uint64() & end, r.Uint64() & end}[r.Intn(5)]
	}
	return api.Packet{H: h, Body: body}
}

// P3.5: a byte of the 20 changed, whatever the frame.
func TestByteOfHeadChanged(t *testing.T) {
	r := rand.New(rand.NewSource(3))
	for range 300 {
		p := anyPacket(r)
		if p.H[api.Kind] != 0x800 {
			continue
		}
		b, _ := Build(p)
		ip := kindAt(b) + 2
		for at := ip; at < ip+20; at++ {
			for change := 1; change < 256; change++ {
				b[at] ^= byte(change)
				wantNone(t, b)
				b[at] ^= byte(change)
			}
		}
		p.H[api.Port], p.H[api.Switch] = 0, 0
		wantPacket(t, b, p)
	}
}

// P3.4: from packets to bytes and back.
func TestThereAndBack(t *testing.T) {
	r := rand.New(rand.NewSource(4))
	for range 50000 {
		p := anyPacket(r)
		b, e := Build(p)
		if want := slowBuild(p); e != api.OK || !bytes.Equal(b, want) {
			t.Fatalf("Build(%x) = %x, %v, want %x", p, b, e, want)
		}
		p.H[api.Port], p.H[api.Switch] = 0, 0
		wantPacket(t, b, p)
	}
}

// slowBuild is the chapter's words, a part after the other, for a packet that
// can be built.
func slowBuild(p api.Packet) []byte {
	put := func(parts ...[2]uint64) (b []byte) {
		for _, part := range parts {
			for i := range part[0] {
				b = append(b, byte(part[1]>>(8*(part[0]-1-i))))
			}
		}
		return b
	}
	h, body := p.H, slices.Clone(p.Body)
	switch {
	case h[api.Kind] == 0x806:
		ask := put([2]uint64{6, 0})
		if body[0] == 2 {
			ask = put([2]uint64{6, h[api.Dst]})
		}
		first := put([2]uint64{2, 1}, [2]uint64{2, 0x800}, [2]uint64{1, 6}, [2]uint64{1, 4},
			[2]uint64{2, uint64(body[0])}, [2]uint64{6, h[api.Src]}, [2]uint64{4, h[api.From]})
		body = slices.Concat(first, ask, put([2]uint64{4, h[api.To]}))
	case h[api.Proto] == 6:
		body = slices.Concat(put([2]uint64{2, h[api.SPort]}, [2]uint64{2, h[api.DPort]}, [2]uint64{8, 0},
			[2]uint64{1, 0x50}, [2]uint64{1, 0x10}, [2]uint64{6, 0}), body)
	case h[api.Proto] == 17:
		body = slices.Concat(put([2]uint64{2, h[api.SPort]}, [2]uint64{2, h[api.DPort]},
			[2]uint64{2, 8 + uint64(len(body))}, [2]uint64{2, 0}), body)
	}
	if h[api.Kind] == 0x800 {
		head := put([2]uint64{1, 0x45}, [2]uint64{1, 0}, [2]uint64{2, 20 + uint64(len(body))}, [2]uint64{2, 0},
			[2]uint64{2, 0}, [2]uint64{1, 64}, [2]uint64{1, h[api.Proto]}, [2]uint64{2, 0},
			[2]uint64{4, h[api.From]}, [2]uint64{4, h[api.To]})
		copy(head[10:], put([2]uint64{2, uint64(slowSum(head))}))
		body = slices.Concat(head, body)
	}
	var tag []byte
	if h[api.Vlan] != 0 {
		tag = put([2]uint64{2, 0x8100}, [2]uint64{2, h[api.Vlan]})
	}
	return slices.Concat(put([2]uint64{6, h[api.Dst]}, [2]uint64{6, h[api.Src]}), tag, put([2]uint64{2, h[api.Kind]}), body)
}

// slowParse takes the fields from where they would stand, and asks whether the
// bytes are what is built of them.
func slowParse(b []byte) (p api.Packet, ok bool) {
	at := func(place, size int) (n uint64) {
		for i := place; i < place+size && i < len(b); i++ {
			n = n*256 + uint64(b[i])
		}
		return n
	}
	if len(b) < 14 {
		return p, false
	}
	k := kindAt(b)
	p.H = api.Header{api.Dst: at(0, 6), api.Src: at(6, 6), api.Kind: at(k, 2)}
	if k == 16 {
		p.H[api.Vlan] = at(14, 2)
	}
	ahead := k + 2
	switch p.H[api.Kind] {
	case 0x806:
		p.H[api.From], p.H[api.To] = at(k+16, 4), at(k+26, 4)
		p.Body = []byte{byte(at(k+9, 1))}
		if p.Body[0] != 1 && p.Body[0] != 2 {
			return api.Packet{}, false
		}
	case 0x800:
		p.H[api.Proto], p.H[api.From], p.H[api.To] = at(k+11, 1), at(k+14, 4), at(k+18, 4)
		ahead += 20
		if size := map[uint64]int{6: 20, 17: 8}[p.H[api.Proto]]; size > 0 {
			p.H[api.SPort], p.H[api.DPort] = at(k+22, 2), at(k+24, 2)
			ahead += size
		}
	}
	if p.H[api.Kind] != 0x806 && ahead < len(b) {
		p.Body = b[ahead:]
	}
	if header.Check(p.H) != api.OK || len(b) > api.MaxFrame+k-12 || !bytes.Equal(slowBuild(p), b) {
		return api.Packet{}, false
	}
	return p, true
}

// spoil changes bytes a little: often such that they are a frame still.
func spoil(r *rand.Rand, b []byte) []byte {
	switch r.Intn(6) {
	case 0:
		b = b[:r.Intn(len(b)+1)]
	case 1:
		b = append(b, anyBytes(r, r.Intn(4))...)
	case 2:
		if len(b) >= 14 {
			b = slices.Insert(b, 12, 0x81, 0, byte(r.Intn(18)), byte(r.Intn(3)))
		}
	case 3, 4:
		if len(b) > 0 {
			b[r.Intn(len(b))] = []byte{0, 1, 2, 6, 17, 0xff, byte(r.Intn(256))}[r.Intn(7)]
		}
	}
	if len(b) >= 18 && r.Intn(2) == 0 {
		if k := kindAt(b); b[k] == 8 && b[k+1] == 0 {
			mend(b)
		}
	}
	return b
}

// P3.1, P3.4: any bytes, against the plain telling; what is parsed is built again
// as it was.
func TestAgainstWords(t *testing.T) {
	r := rand.New(rand.NewSource(5))
	frames := 0
	for range 200000 {
		b := anyBytes(r, r.Intn(80))
		if r.Intn(8) > 0 {
			b, _ = Build(anyPacket(r))
		}
		for range r.Intn(3) {
			b = spoil(r, b)
		}
		p, ok := slowParse(b)
		if !ok {
			wantNone(t, b)
			continue
		}
		frames++
		wantPacket(t, b, p)
		wantBytes(t, p, b)
	}
	if frames < 20000 || frames > 180000 {
		t.Errorf("%d frames: too few, or too many", frames)
	}
}

// DOC.md's R3: what is handed in, with the room behind it, stays as it is, and
// what is handed out is new memory.
func TestMemory(t *testing.T) {
	for _, s := range samples() {
		want := unhex(t, s.bytes)
		room := append(slices.Clone(want), "behind"...)
		p, _ := Parse(room[:len(want)])
		if !bytes.Equal(room, append(slices.Clone(want), "behind"...)) {
			t.Errorf("%s: Parse changed what it was handed", s.name)
		}
		for i := range room {
			room[i] ^= 0xff
		}
		if p.H != s.p.H || !bytes.Equal(p.Body, s.p.Body) {
			t.Errorf("%s: Parse kept what it was handed", s.name)
		}
		_ = append(p.Body, "more"...)
		wantBytes(t, p, want)

		bodyRoom := append(slices.Clone(s.p.Body), "behind"...)
		p = api.Packet{H: s.p.H, Body: bodyRoom[:len(s.p.Body)]}
		b, _ := Build(p)
		again, _ := Build(p)
		for i := range b {
			b[i] ^= 0xff
		}
		if !bytes.Equal(again, want) || !bytes.Equal(bodyRoom, append(slices.Clone(s.p.Body), "behind"...)) {
			t.Errorf("%s: Build's answer shares memory", s.name)
		}
		Sum(bodyRoom[:1])
		if !bytes.Equal(bodyRoom, append(slices.Clone(s.p.Body), "behind"...)) {
			t.Errorf("%s: Sum changed what it was handed", s.name)
		}
	}
}
