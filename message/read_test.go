package message

import (
	"bytes"
	"cmp"
	"encoding/hex"
	"math/rand"
	"runtime"
	"slices"
	"sync"
	"testing"
	"unsafe"

	"tollbridge/api"
)

// longs are messages of 8192 bytes, or nearly.
func longs() []api.Message {
	return []api.Message{
		{Type: api.MsgIn, Port: 1, Frame: bytes.Repeat([]byte{0xab}, 8180)},
		{Type: api.MsgFeatures, Switch: 3, Ports: slices.Repeat([]uint16{7}, 4000), Edge: slices.Repeat([]uint16{8}, 89)},
		{Type: api.MsgRule, Rule: api.Rule{Rank: -5, Copies: slices.Repeat([][]api.Action{{{N: 1}, {Do: 1}}, {}}, 340)}},
		{Type: api.MsgStated, Port: 1, Helds: slices.Repeat([]api.Held{{Rule: api.Rule{Cookie: 9}}}, 255)},
	}
}

// P7.3: fewer than 8 bytes, whatever they are.
func TestDecodeFewer(t *testing.T) {
	wantRefused(t, nil, api.ErrShort)
	wantRefused(t, []byte{}, api.ErrShort)
	for n := range 8 {
		wantRefused(t, unhex("01 01 0008 00000005")[:n], api.ErrShort)
		wantRefused(t, unhex("02 ff 0000 00000005")[:n], api.ErrShort)
		wantRefused(t, bytes.Repeat([]byte{0xff}, n), api.ErrShort)
		wantRefused(t, make([]byte, n), api.ErrShort)
	}
}

// P7.3: fewer bytes than the length says, which goes ahead of all else that is wrong.
func TestDecodeFewerThanSaid(t *testing.T) {
	for _, s := range samples() {
		b := unhex(s.hex)
		for n := range len(b) {
			wantRefused(t, b[:n], api.ErrShort)
		}
	}
	for _, head := range []string{"01 01", "00 01", "02 01", "01 0e", "01 ff", "ff ff", "01 0c"} {
		for _, said := range []string{"0009", "000a", "0100", "2000", "2001", "8000", "ffff"} {
			wantRefused(t, unhex(head+said+"00000005"), api.ErrShort)
		}
	}
	for _, m := range longs() {
		b := words(m)
		wantRefused(t, b[:len(b)-1], api.ErrShort)
	}
	wantRefused(t, append(unhex("01 06 ffff 00000000 0000 fff3"), make([]byte, 0xfff2)...), api.ErrShort)
}

// P7.3: more bytes than the length says, also where that is below 8.
func TestDecodeMoreThanSaid(t *testing.T) {
	for _, s := range samples() {
		b := unhex(s.hex)
		for _, n := range []int{1, 2, 8, 100, 1 << 16, 1<<16 + 8} {
			wantRefused(t, append(slices.Clone(b), make([]byte, n)...), api.ErrMessage)
		}
		wantRefused(t, append(slices.Clone(b), b...), api.ErrMessage)
		for said := range len(b) {
			less := slices.Clone(b)
			big.PutUint16(less[2:], uint16(said))
			wantRefused(t, less, api.ErrMessage)
		}
	}
	for _, m := range longs() {
		wantRefused(t, append(words(m), 0), api.ErrMessage)
	}
}

// P7.3: the parts end where the length says, and not ahead of it nor behind it, also where what is
// missing stands in the room behind the bytes.
func TestDecodeCut(t *testing.T) {
	for _, s := range samples() {
		b := unhex(s.hex)
		for n := 8; n < len(b); n++ {
			wantRefused(t, sized(b[:n]), api.ErrMessage)
			room := slices.Clone(b)
			big.PutUint16(room[2:], uint16(n))
			wantRefused(t, room[:n], api.ErrMessage)
		}
		for n := 1; n < 40; n++ {
			wantRefused(t, sized(append(slices.Clone(b), make([]byte, n)...)), api.ErrMessage)
		}
	}
}

// P7.3: a message has 8192 bytes at the most; bytes that are more are no message's, also where the
// length says so.
func TestDecodeLong(t *testing.T) {
	for _, m := range longs() {
		wantBytes(t, m, words(m))
	}
	for _, n := range []int{8181, 8182, 9000, 1<<16 - 1 - 12} {
		wantRefused(t, words(frameOf(api.MsgIn, n)), api.ErrMessage)
		wantRefused(t, words(frameOf(api.MsgOut, n)), api.ErrMessage)
	}
	wantRefused(t, words(api.Message{Type: api.MsgFeatures, Ports: make([]uint16, 4090)}), api.ErrMessage)
	wantRefused(t, words(api.Message{Type: api.MsgRule, Rule: copiesOf(4084, 0)}), api.ErrMessage)
	wantRefused(t, words(api.Message{Type: api.MsgStated, Helds: make([]api.Held, 256)}), api.ErrMessage)
	for _, n := range []int{1 << 16, 1<<16 + 8, 1<<16 + 12, 1 << 20} {
		wantRefused(t, append(unhex("01 01 0008 00000005"), make([]byte, n-8)...), api.ErrMessage)
		wantRefused(t, sized(append(unhex("01 06 0000 00000000 0000 0000"), make([]byte, n-12)...)), api.ErrMessage)
	}
}

// P7.3: the first byte is 1.
func TestDecodeFirstByte(t *testing.T) {
	for _, s := range samples() {
		b := unhex(s.hex)
		for first := range 256 {
			b[0] = byte(first)
			if first != 1 {
				wantRefused(t, b, api.ErrMessage)
			}
		}
	}
}

// P7.3: a byte of Up is 0 or 1.
func TestDecodeUp(t *testing.T) {
	for up := 2; up < 256; up++ {
		wantRefused(t, append(unhex("01 0c 000b 00000000 0003"), byte(up)), api.ErrMessage)
	}
}

// P7.3: a match has no field past the eleven, and none whose Mask is 0.
func TestDecodeMatch(t *testing.T) {
	rule := func(match string) []byte {
		return sized(unhex("01 05 0000 00000000 00 00000001 0000000000000000" + match + "0000"))
	}
	stated := func(match string) []byte {
		return sized(unhex("01 0b 0000 00000000 0000 0001 00000001 0000000000000000" + match + "0000 0000000000000000 0000000000000000"))
	}
	refused := func(match string) {
		t.Helper()
		wantRefused(t, rule(match), api.ErrMessage)
		wantRefused(t, stated(match), api.ErrMessage)
	}
	for _, match := range []string{"0000", everyFieldHex, "0040 06 ff", "0008 0000 0fff", "0400 0000 0001"} {
		for _, b := range [][]byte{rule(match), stated(match)} {
			if m, e := Decode(b); e != api.OK || !bytes.Equal(words(m), b) {
				t.Errorf("%s is refused: %v", match, e)
			}
		}
	}
	for bit := 11; bit < 16; bit++ {
		which := big.AppendUint16(nil, 1<<bit)
		for n := range 13 {
			refused(hex.EncodeToString(append(which, make([]byte, n)...)))
			refused(hex.EncodeToString(append(which, bytes.Repeat([]byte{0xff}, n)...)))
		}
	}
	for field, size := range inBytes {
		which := big.AppendUint16(nil, 1<<field)
		refused(hex.EncodeToString(append(which, make([]byte, 2*size)...)))
		refused(hex.EncodeToString(append(append(which, 1), make([]byte, 2*size-1)...)))
	}
	refused("0008 0000 1fff")
	refused("0008 1000 1000")
	refused("0008 0000 8000")
	refused("0040 06 fd")
	refused("0040 ff 06 00")
	refused("0041 000000000001 000000000001 00 00")
}

// wantInverse: where Decode tells a message, b are just its bytes by the chapter's words; and where it
// refuses, by the right error.
func wantInverse(t *testing.T, b []byte) bool {
	t.Helper()
	m, e := Decode(b)
	switch {
	case len(b) < 8 || len(b) < int(big.Uint16(b[2:])):
		wantRefused(t, b, api.ErrShort)
	case e != api.OK:
		wantRefused(t, b, api.ErrMessage)
	default:
		if verdict(m) != api.OK || !bytes.Equal(words(m), b) {
			t.Errorf("%s is read as %+v", short(b), m)
		}
		wantBytes(t, m, b)
		return true
	}
	return false
}

// P7.3, P7.4: every byte of every sample, as any other byte.
func TestEveryByteChanged(t *testing.T) {
	read := 0
	for _, s := range samples() {
		b := unhex(s.hex)
		for place, was := range b {
			for c := range 256 {
				b[place] = byte(c)
				if wantInverse(t, b) {
					read++
				}
			}
			b[place] = was
		}
	}
	if read < 10000 {
		t.Errorf("only %d were read", read)
	}
}

// P7.4: any messages, there and back.
func TestThereAndBack(t *testing.T) {
	r := rand.New(rand.NewSource(74))
	for range 30000 {
		m := anyMessage(r)
		wantBytes(t, m, words(m))
		b, _ := Encode(m)
		got, _ := Decode(b)
		again, e := Encode(got)
		if e != api.OK || !bytes.Equal(again, b) {
			t.Fatalf("%x is written again as %x, %v", b, again, e)
		}
	}
}

// P7.4: no message's bytes begin another one's.
func TestNoneBeginsAnother(t *testing.T) {
	r := rand.New(rand.NewSource(75))
	var list [][]byte
	for _, s := range samples() {
		list = append(list, unhex(s.hex))
	}
	for range 20000 {
		b, _ := Encode(anyMessage(r))
		list = append(list, b)
	}
	slices.SortFunc(list, bytes.Compare)
	for i := range len(list) - 1 {
		// What begins another one stands ahead of it, with none between that it does not begin.
		if !bytes.Equal(list[i], list[i+1]) && bytes.HasPrefix(list[i+1], list[i]) {
			t.Errorf("%x begins %x", list[i], list[i+1])
		}
	}
}

// R1, P7.3: any bytes, and messages' bytes with something changed, end in the right answer.
func TestAnyBytes(t *testing.T) {
	r := rand.New(rand.NewSource(76))
	for range 60000 {
		b := words(anyMessage(r))
		switch r.Intn(6) {
		case 0:
			b = anyBytes(r, r.Intn(60))
		case 1:
			b = append([]byte{1, byte(r.Intn(15)), 0, 0}, anyBytes(r, 4+r.Intn(40))...)
		case 2:
			b = b[:r.Intn(len(b)+1)]
		case 3:
			b = slices.Insert(b, r.Intn(len(b)+1), anyBytes(r, 1+r.Intn(12))...)
		}
		for range r.Intn(3) {
			if len(b) > 0 {
				b[r.Intn(len(b))] = []byte{0, 1, 2, 255, byte(r.Intn(256))}[r.Intn(5)]
			}
		}
		if r.Intn(4) > 0 && len(b) >= 8 {
			b = sized(b)
		}
		wantInverse(t, b)
	}
}

// R6: a list without members is read as one; those that do not count are empty.
func TestEmptyLists(t *testing.T) {
	for _, s := range samples() {
		m, _ := Decode(unhex(s.hex))
		if len(m.Ports) != len(s.m.Ports) || len(m.Edge) != len(s.m.Edge) || len(m.Frame) != len(s.m.Frame) ||
			len(m.Helds) != len(s.m.Helds) || len(m.Rule.Copies) != len(s.m.Rule.Copies) {
			t.Errorf("%s has lists of other lengths: %+v", s.hex, m)
		}
	}
}

// roomy is the list with room behind its end, which holds something.
func roomy[T any](list []T, behind T) []T {
	all := append(slices.Clone(list), behind, behind, behind)
	return all[:len(list)]
}

func roomyRule(r api.Rule) api.Rule {
	r.Copies = roomy(r.Copies, []api.Action{{Do: 2}})
	for i := range r.Copies {
		r.Copies[i] = roomy(r.Copies[i], api.Action{Do: 2})
	}
	return r
}

func roomyMessage(m api.Message) api.Message {
	m.Ports, m.Edge, m.Frame = roomy(m.Ports, 0xa5), roomy(m.Edge, 0xa5), roomy(m.Frame, 0xa5)
	m.Rule = roomyRule(m.Rule)
	m.Helds = roomy(m.Helds, api.Held{Rule: api.Rule{Rank: 0xa5}})
	for i := range m.Helds {
		m.Helds[i].Rule = roomyRule(m.Helds[i].Rule)
	}
	return m
}

// whole is m with its lists as long as they have room.
func whole(m api.Message) api.Message {
	m.Ports, m.Edge, m.Frame, m.Helds = m.Ports[:cap(m.Ports)], m.Edge[:cap(m.Edge)], m.Frame[:cap(m.Frame)], m.Helds[:cap(m.Helds)]
	m = plain(m)
	m.Rule = wholeRule(m.Rule)
	for i := range m.Helds {
		m.Helds[i].Rule = wholeRule(m.Helds[i].Rule)
	}
	return m
}

func wholeRule(r api.Rule) api.Rule {
	r.Copies = plainList(r.Copies[:cap(r.Copies)])
	for i, list := range r.Copies {
		r.Copies[i] = plainList(list[:cap(list)])
	}
	return r
}

// R3: what is handed in stays as it was, with the room behind its ends, and is not kept.
func TestHandedInStays(t *testing.T) {
	r := rand.New(rand.NewSource(77))
	for range 3000 {
		m := anyMessage(r)
		if r.Intn(4) == 0 {
			m = spoilt(r, m)
		}
		in := roomyMessage(m)
		before := whole(in)
		Check(in)
		b, _ := Encode(in)
		if !same(whole(in), before) {
			t.Fatalf("%+v was changed to %+v", before, whole(in))
		}
		clear(b[:cap(b)])
		if !same(whole(in), before) {
			t.Fatalf("what Encode tells is the memory of %+v", before)
		}
	}
	for range 3000 {
		m := anyMessage(r)
		b := roomy(words(m), 0xa5)
		if r.Intn(4) == 0 {
			b[r.Intn(len(b))]++
		}
		before := slices.Clone(b[:cap(b)])
		got, e := Decode(b)
		if !bytes.Equal(b[:cap(b)], before) {
			t.Fatalf("%x was changed", before)
		}
		told := plain(got)
		clear(b[:cap(b)])
		if !same(got, told) || e == api.OK && len(before) > 0 && !bytes.Equal(words(got), before[:len(b)]) {
			t.Fatalf("what Decode tells is the memory of %x", before)
		}
	}
}

// span is the memory of a list, with the room behind its end.
type span struct{ first, end uintptr }

func spanOf[T any](list []T) span {
	var member T
	first := uintptr(unsafe.Pointer(unsafe.SliceData(list)))
	return span{first, first + uintptr(cap(list))*unsafe.Sizeof(member)}
}

func spansOf(m api.Message) []span {
	list := []span{spanOf(m.Ports), spanOf(m.Edge), spanOf(m.Frame), spanOf(m.Helds), spanOf(m.Rule.Copies)}
	copies := slices.Clone(m.Rule.Copies)
	for _, h := range m.Helds {
		list = append(list, spanOf(h.Rule.Copies))
		copies = append(copies, h.Rule.Copies...)
	}
	for _, actions := range copies {
		list = append(list, spanOf(actions))
	}
	return slices.DeleteFunc(list, func(s span) bool { return s.first == s.end })
}

// R3: no two lists of what is told share memory, not even behind their ends, nor do those of two
// answers, nor the bytes that were read.
func TestToldIsNew(t *testing.T) {
	r := rand.New(rand.NewSource(78))
	for range 3000 {
		b := words(anyMessage(r))
		first, _ := Decode(b)
		second, _ := Decode(b)
		written, _ := Encode(first)
		again, _ := Encode(first)
		all := append(spansOf(first), spansOf(second)...)
		all = append(all, spanOf(b), spanOf(written), spanOf(again))
		slices.SortFunc(all, func(a, b span) int { return cmp.Compare(a.first, b.first) })
		for i := range len(all) - 1 {
			if all[i].end > all[i+1].first {
				t.Fatalf("memory is shared in what is told of %x", b)
			}
		}
		runtime.KeepAlive(second)
		runtime.KeepAlive(again)
	}
}

// R2: calls side by side answer as each alone does.
func TestSideBySide(t *testing.T) {
	var all sync.WaitGroup
	for range 8 {
		all.Go(func() {
			for _, s := range samples() {
				wantBytes(t, s.m, unhex(s.hex))
			}
		})
	}
	all.Wait()
}
