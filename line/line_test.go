package line

import (
	"bytes"
	"encoding/binary"
	"fmt"
	"hash/crc32"
	"math"
	"math/rand"
	"slices"
	"strings"
	"testing"

	"tollbridge/api"
)

// told is a datagram as the chapter's words have it.
type told struct {
	epoch, come, first uint32
	messages           [][]byte
}

func tell(epoch, come, first uint32, messages ...string) told {
	d := told{epoch, come, first, nil}
	for _, m := range messages {
		d.messages = append(d.messages, []byte(m))
	}
	return d
}

// inside is what is sealed of it.
func (d told) inside() []byte {
	var b []byte
	for _, n := range []uint32{d.epoch, d.come, d.first} {
		b = binary.BigEndian.AppendUint32(b, n)
	}
	b = binary.BigEndian.AppendUint16(b, uint16(len(d.messages)))
	for _, m := range d.messages {
		b = binary.BigEndian.AppendUint16(b, uint16(len(m)))
		b = append(b, m...)
	}
	return b
}

func (d told) bytes() []byte {
	return sealed(d.inside())
}

func (d told) String() string {
	return fmt.Sprintf("epoch %d, come %d, first %d, %s", d.epoch, d.come, d.first, short(d.messages))
}

// sealed takes any length, other than crc.Seal.
func sealed(b []byte) []byte {
	return binary.LittleEndian.AppendUint32(slices.Clone(b), crc32.ChecksumIEEE(b))
}

func short(list [][]byte) string {
	if len(list) == 0 {
		return "none"
	}
	var texts []string
	for _, m := range list {
		if len(m) > 12 {
			texts = append(texts, fmt.Sprintf("%q.. (%d bytes)", m[:12], len(m)))
		} else {
			texts = append(texts, fmt.Sprintf("%q", m))
		}
	}
	return strings.Join(texts, " ")
}

func same(a, b [][]byte) bool {
	return slices.EqualFunc(a, b, bytes.Equal)
}

func texts(list ...string) [][]byte {
	return tell(0, 0, 0, list...).messages
}

func random(r *rand.Rand, n int) []byte {
	b := make([]byte, n)
	r.Read(b)
	return b
}

func wantSend(t *testing.T, e *End, b []byte, want api.Errno) {
	t.Helper()
	if got := e.Send(b); got != want {
		t.Errorf("Send of %d bytes: %v, want %v", len(b), got, want)
	}
}

func wantTake(t *testing.T, e *End, b []byte, want api.Errno) {
	t.Helper()
	if got := e.Take(b); got != want {
		t.Errorf("Take(%x) = %v, want %v", b[:min(len(b), 60)], got, want)
	}
}

func wantTick(t *testing.T, e *End, want told) {
	t.Helper()
	got := e.Tick()
	if len(got) != 1 || !bytes.Equal(got[0], want.bytes()) {
		t.Errorf("Tick tells %s, want %s: %x", short(got), short([][]byte{want.bytes()}), want.inside()[:14])
	}
}

func wantCame(t *testing.T, e *End, want ...string) {
	t.Helper()
	if got := e.Came(); !same(got, texts(want...)) {
		t.Errorf("Came: %s, want %s", short(got), short(texts(want...)))
	}
}

func wantLeft(t *testing.T, e *End, want int) {
	t.Helper()
	if got := e.Left(); got != want {
		t.Errorf("Left: %d, want %d", got, want)
	}
}

// end is one to which as many messages have come as come says, all told, and
// which sent all those messages, of which as many are got as got says.
func end(t *testing.T, epoch uint32, come, got int, sent ...string) *End {
	t.Helper()
	e := New(epoch)
	for _, m := range sent {
		wantSend(t, e, []byte(m), api.OK)
	}
	for i := range come {
		wantTake(t, e, tell(epoch, 0, uint32(i), "c").bytes(), api.OK)
	}
	wantTake(t, e, tell(epoch, uint32(got), 0).bytes(), api.OK)
	if n := len(e.Came()); n != come {
		t.Fatalf("%d came, want %d", n, come)
	}
	wantLeft(t, e, len(sent)-got)
	return e
}

var epochs = []uint32{0, 1, 2, 0xff, 0x100, 0x01020304, math.MaxInt32, math.MaxInt32 + 1, math.MaxUint32 - 1, math.MaxUint32}

// P6.1: nothing was sent or got, and nothing has come.
func TestNew(t *testing.T) {
	for _, epoch := range epochs {
		e := New(epoch)
		wantLeft(t, e, 0)
		wantCame(t, e)
		wantTick(t, e, tell(epoch, 0, 0))
		wantLeft(t, e, 0)
	}
}

// P6.1: Reset to any epoch, a lesser one too, and what has come and was not told is lost.
func TestReset(t *testing.T) {
	for _, from := range epochs {
		for _, to := range epochs {
			e := end(t, from, 3, 2, "a", "b", "c", "d")
			wantTake(t, e, tell(from, 0, 3, "lost").bytes(), api.OK)
			e.Reset(to)
			wantLeft(t, e, 0)
			wantCame(t, e)
			wantTick(t, e, tell(to, 0, 0))
			wantSend(t, e, []byte("new"), api.OK)
			wantTick(t, e, tell(to, 0, 0, "new"))
			wantTake(t, e, tell(to, 1, 0, "first", "second").bytes(), api.OK)
			wantCame(t, e, "first", "second")
			wantTick(t, e, tell(to, 2, 1))
		}
	}
}

// P6.1: a Reset makes room for 4096 again.
func TestResetOfFull(t *testing.T) {
	e := New(1)
	for range 4096 {
		wantSend(t, e, nil, api.OK)
	}
	wantSend(t, e, nil, api.ErrFull)
	e.Reset(1)
	for range 4096 {
		wantSend(t, e, nil, api.OK)
	}
	wantSend(t, e, nil, api.ErrFull)
}

// The chapter's examples, row by row.
func TestExamples(t *testing.T) {
	a, b := New(7), New(7)
	wantSend(t, a, []byte("x"), api.OK)
	wantSend(t, a, []byte("y"), api.OK)
	wantTick(t, a, tell(7, 0, 0, "x", "y"))
	d := a.Tick()[0]
	wantTake(t, b, d, api.OK)
	wantCame(t, b, "x", "y")
	wantTake(t, b, d, api.OK)
	wantCame(t, b)
	wantTick(t, b, tell(7, 2, 0))
	wantTake(t, a, b.Tick()[0], api.OK)
	wantLeft(t, a, 0)
	wantTick(t, a, tell(7, 0, 2))
	wantSend(t, b, []byte("gone"), api.OK)
	wantTake(t, b, tell(8, 0, 0, "z").bytes(), api.OK)
	wantCame(t, b, "z")
	wantLeft(t, b, 0)
	wantTick(t, b, tell(8, 1, 0))
	for place := range d {
		torn := slices.Clone(d)
		torn[place] ^= 0x10
		wantTake(t, b, torn, api.ErrTorn)
	}
}

// P6.2: no bytes and 8192 are sent, one more is not, and what is refused changes nothing.
func TestSend(t *testing.T) {
	e := New(4)
	long := strings.Repeat("l", 8193)
	wantSend(t, e, nil, api.OK)
	wantSend(t, e, []byte{}, api.OK)
	wantSend(t, e, []byte("one"), api.OK)
	wantSend(t, e, []byte(long[:8191]), api.OK)
	want := tell(4, 0, 0, "", "", "one", long[:8191])
	wantTick(t, e, want)
	for _, n := range []int{8193, 8194, 1<<14 - 16, 1 << 14, 1 << 16, 1<<16 + 1, 1 << 20} {
		wantSend(t, e, make([]byte, n), api.ErrLong)
	}
	wantLeft(t, e, 4)
	wantTick(t, e, want)
	wantTake(t, e, tell(4, 4, 0).bytes(), api.OK)
	wantSend(t, e, []byte(long[:8192]), api.OK)
	wantTick(t, e, tell(4, 0, 4, long[:8192]))
	wantSend(t, e, []byte(long), api.ErrLong)
	wantLeft(t, e, 1)
}

// P6.2: 4096 may wait, one more may not; what is got makes room. ErrLong goes ahead of ErrFull.
func TestSendFull(t *testing.T) {
	e := New(0)
	number := 0
	next := func(want api.Errno) {
		t.Helper()
		wantSend(t, e, fmt.Appendf(nil, "%d", number), want)
		if want == api.OK {
			number++
		}
	}
	for range 4096 {
		next(api.OK)
	}
	for _, got := range []uint32{1, 2, 5, 32, 64, 100, 4196} {
		wantLeft(t, e, 4096)
		next(api.ErrFull)
		wantSend(t, e, nil, api.ErrFull)
		wantSend(t, e, make([]byte, 8192), api.ErrFull)
		wantSend(t, e, make([]byte, 8193), api.ErrLong)
		wantLeft(t, e, 4096)
		before := number - 4096
		wantTake(t, e, tell(0, got, 0).bytes(), api.OK)
		wantLeft(t, e, number-int(got))
		for range int(got) - before {
			next(api.OK)
		}
	}
	next(api.ErrFull)
	want := tell(0, 0, 4196)
	for i := range 32 {
		want.messages = append(want.messages, fmt.Appendf(nil, "%d", 4196+i))
	}
	wantTick(t, e, want)
}

// P6.3: the first 32 that are not got, in order, and no more; a Tick changes nothing.
func TestTickWindow(t *testing.T) {
	for _, n := range []int{0, 1, 2, 31, 32, 33, 40, 64, 100} {
		e := New(9)
		var sent []string
		for i := range n {
			sent = append(sent, fmt.Sprint("m", i))
			wantSend(t, e, []byte(sent[i]), api.OK)
		}
		for got := range n + 1 {
			wantTake(t, e, tell(9, uint32(got), 0).bytes(), api.OK)
			want := tell(9, 0, uint32(got), sent[got:min(n, got+32)]...)
			wantTick(t, e, want)
			wantTick(t, e, want)
			wantLeft(t, e, n-got)
		}
	}
}

// P6.3: what is sealed has 2^14 bytes at the most. The first message that does not go in ends the
// datagram, also where one behind it would go in.
func TestTickRoom(t *testing.T) {
	ofAll := make([]int, 32)
	for i := range ofAll {
		ofAll[i] = 509
	}
	ofAll[31] = 527
	oneMore := slices.Clone(ofAll)
	oneMore[31]++
	oneMoreAhead := slices.Clone(ofAll)
	oneMoreAhead[0]++
	empty := make([]int, 40)
	tests := []struct {
		lengths []int
		fit     int
		inside  int
	}{
		{[]int{8192}, 1, 14 + 8194},
		{[]int{8192, 8192}, 1, 14 + 8194},
		{[]int{8192, 8192, 1}, 1, 14 + 8194},
		{[]int{8192, 8192, 0, 0}, 1, 14 + 8194},
		{[]int{8192, 8173}, 2, 1<<14 - 1},
		{[]int{8192, 8174}, 2, 1 << 14},
		{[]int{8192, 8175}, 1, 14 + 8194},
		{[]int{8192, 8175, 0}, 1, 14 + 8194},
		{[]int{8192, 8174, 0}, 2, 1 << 14},
		{[]int{8192, 8173, 0}, 2, 1<<14 - 1},
		{[]int{8192, 8172, 0}, 3, 1 << 14},
		{[]int{8192, 8172, 1}, 2, 1<<14 - 2},
		{[]int{8192, 8172, 1, 0}, 2, 1<<14 - 2},
		{[]int{0, 8192, 8172, 1}, 3, 1 << 14},
		{[]int{8183, 8183}, 2, 1 << 14},
		{[]int{8183, 8184}, 1, 14 + 8185},
		{ofAll, 32, 1 << 14},
		{append(slices.Clone(ofAll), 0), 32, 1 << 14},
		{oneMore, 31, 14 + 31*511},
		{oneMoreAhead, 31, 14 + 31*511 + 1},
		{empty, 32, 14 + 32*2},
	}
	r := rand.New(rand.NewSource(61))
	for _, test := range tests {
		e := end(t, 3, 5, 0)
		want := told{epoch: 3, come: 5}
		for i, n := range test.lengths {
			m := random(r, n)
			wantSend(t, e, m, api.OK)
			if i < test.fit {
				want.messages = append(want.messages, m)
			}
		}
		wantTick(t, e, want)
		if n := len(e.Tick()[0]); n != test.inside+4 {
			t.Errorf("%v: %d bytes, want %d", test.lengths, n, test.inside+4)
		}
		wantLeft(t, e, len(test.lengths))
	}
}

// P6.3: any lengths, against the words: a message more would be too much for the window or the room.
func TestTickAgainstWords(t *testing.T) {
	r := rand.New(rand.NewSource(62))
	for range 400 {
		e := New(1)
		most := []int{0, 3, 600, 2000, 8192}[r.Intn(5)]
		var sent [][]byte
		for range r.Intn(50) {
			sent = append(sent, random(r, r.Intn(most+1)))
			wantSend(t, e, sent[len(sent)-1], api.OK)
		}
		want := told{epoch: 1}
		for n := 0; n <= min(len(sent), 32); n++ {
			if more := (told{epoch: 1, messages: sent[:n]}); len(more.inside()) <= 1<<14 {
				want = more
			}
		}
		wantTick(t, e, want)
	}
}

// P6.3: every number stands in its place, the greatest byte first.
func TestTickBytes(t *testing.T) {
	e := New(0x01020304)
	for i := range uint32(0x107) {
		wantTake(t, e, tell(0x01020304, 0, i, "c").bytes(), api.OK)
	}
	for range 0x208 {
		wantSend(t, e, nil, api.OK)
	}
	wantTake(t, e, tell(0x01020304, 0x206, 0).bytes(), api.OK)
	wantSend(t, e, bytes.Repeat([]byte("m"), 0x305), api.OK)
	want := "\x01\x02\x03\x04" + "\x00\x00\x01\x07" + "\x00\x00\x02\x06" + "\x00\x03" +
		"\x00\x00" + "\x00\x00" + "\x03\x05" + strings.Repeat("m", 0x305)
	if got := e.Tick(); len(got) != 1 || !bytes.Equal(got[0], sealed([]byte(want))) {
		t.Errorf("Tick tells %x", got)
	}
}

// refused holds a Take against its error, and the end against what it was ahead of it.
func refused(t *testing.T, b []byte, want api.Errno) {
	t.Helper()
	for _, epoch := range []uint32{0, 3, math.MaxUint32} {
		e := end(t, epoch, 2, 1, "s0", "s1", "s2")
		wantTake(t, e, tell(epoch, 0, 2, "untold").bytes(), api.OK)
		wantTake(t, e, b, want)
		wantLeft(t, e, 2)
		wantTick(t, e, tell(epoch, 3, 1, "s1", "s2"))
		wantCame(t, e, "untold")
	}
}

// P6.4: fewer than four bytes, and a seal that is torn: crc.Open's errors.
func TestTakeTorn(t *testing.T) {
	refused(t, nil, api.ErrShort)
	refused(t, []byte{}, api.ErrShort)
	for n := 1; n <= 3; n++ {
		refused(t, make([]byte, n), api.ErrShort)
	}
	refused(t, []byte{1, 2, 3, 4}, api.ErrTorn)
	refused(t, make([]byte, 5), api.ErrTorn)
	good := tell(3, 2, 3, "one", "two").bytes()
	for place := range 8 * len(good) {
		torn := slices.Clone(good)
		torn[place/8] ^= 1 << (place % 8)
		refused(t, torn, api.ErrTorn)
	}
	refused(t, good[1:], api.ErrTorn)
	refused(t, good[:len(good)-1], api.ErrTorn)
	refused(t, append(slices.Clone(good), 0), api.ErrTorn)
	refused(t, tell(3, 2, 3, "one", "two").inside(), api.ErrTorn)
}

// P6.4: what was sealed of 13 bytes is short, of 14 it is a datagram with none, of 15 it is no message.
func TestTakeShort(t *testing.T) {
	head := tell(3, 2, 3).inside()
	for n := range 14 {
		refused(t, sealed(head[:n]), api.ErrShort)
		refused(t, sealed(make([]byte, n)), api.ErrShort)
		refused(t, sealed(bytes.Repeat([]byte{0xff}, n)), api.ErrShort)
	}
	e := end(t, 3, 0, 1, "a", "b", "c")
	wantTake(t, e, sealed(head), api.OK)
	wantLeft(t, e, 1)
	for c := range 256 {
		refused(t, sealed(append(slices.Clone(head), byte(c))), api.ErrMessage)
	}
	one := tell(3, 2, 3, "").inside()
	refused(t, sealed(one[:14]), api.ErrMessage)
	refused(t, sealed(one[:15]), api.ErrMessage)
	wantTake(t, end(t, 3, 3, 0, "a", "b"), sealed(one), api.OK)
}

// P6.4: more or fewer bytes than the numbers say, of any epoch: a lesser one is no excuse, and to a
// greater one the end is not Reset.
func TestTakeNoMessage(t *testing.T) {
	for _, epoch := range []uint32{0, 2, 3, 4, math.MaxUint32} {
		good := tell(epoch, 2, 3, "one", "", "three").inside()
		for n := 14; n < len(good); n++ {
			refused(t, sealed(good[:n]), api.ErrMessage)
		}
		for n := 1; n <= 20; n++ {
			refused(t, sealed(append(slices.Clone(good), make([]byte, n)...)), api.ErrMessage)
		}
		for place, want := range map[int]byte{13: 3, 15: 3, 20: 0, 22: 5} {
			if good[place] != want {
				t.Fatalf("byte %d is %d", place, good[place])
			}
			for c := range 256 {
				other := slices.Clone(good)
				other[place] = byte(c)
				if byte(c) != want {
					refused(t, sealed(other), api.ErrMessage)
				}
			}
			other := slices.Clone(good)
			other[place-1] = 1
			refused(t, sealed(other), api.ErrMessage)
		}
	}
}

// P6.4: the bytes are what their numbers say of them: with another length ahead, and one message
// fewer, the same bytes are other messages.
func TestTakeOtherLengths(t *testing.T) {
	inside := tell(3, 0, 0, "one", "", "three").inside()
	inside[13], inside[15] = 2, 5
	e := New(3)
	wantTake(t, e, sealed(inside), api.OK)
	wantCame(t, e, "one\x00\x00", "three")
	inside[13], inside[15] = 1, 12
	e = New(3)
	wantTake(t, e, sealed(inside), api.OK)
	wantCame(t, e, "one\x00\x00\x00\x05three")
}

// P6.4: 32 messages are taken, 33 and more are not.
func TestTakeManyMessages(t *testing.T) {
	for _, n := range []int{31, 32} {
		e := New(3)
		wantTake(t, e, told{epoch: 3, messages: make([][]byte, n)}.bytes(), api.OK)
		if got := len(e.Came()); got != n {
			t.Errorf("%d came, want %d", got, n)
		}
	}
	for _, n := range []int{33, 34, 64, 255, 256, 288, 65535} {
		for _, epoch := range []uint32{0, 3, 4} {
			d := told{epoch: epoch, come: 2, first: 3, messages: make([][]byte, n)}
			refused(t, d.bytes(), api.ErrMessage)
		}
	}
}

// P6.4: a message of 8192 bytes is taken, one of more is not, whatever stands beside it. What was
// sealed has no bound of its own.
func TestTakeLongMessage(t *testing.T) {
	long := strings.Repeat("l", 65535)
	for _, n := range []int{0, 1, 255, 256, 8191, 8192} {
		e := New(3)
		wantTake(t, e, tell(3, 0, 0, "a", long[:n], "b").bytes(), api.OK)
		wantCame(t, e, "a", long[:n], "b")
	}
	for _, n := range []int{8193, 8194, 8448, 16384, 32768, 65535} {
		for _, epoch := range []uint32{0, 3, 4} {
			refused(t, tell(epoch, 2, 3, long[:n]).bytes(), api.ErrMessage)
			refused(t, tell(epoch, 2, 3, "a", long[:n]).bytes(), api.ErrMessage)
			refused(t, tell(epoch, 2, 3, long[:n], "b").bytes(), api.ErrMessage)
			refused(t, tell(epoch, 2, 0, long[:n]).bytes(), api.ErrMessage)
		}
	}
	var all []string
	for range 32 {
		all = append(all, long[:8192])
	}
	e := New(3)
	wantTake(t, e, tell(3, 0, 0, all...).bytes(), api.OK)
	wantCame(t, e, all...)
}

// P6.4: of a lesser epoch nothing, of a greater one a Reset first, of the same one what it says.
func TestTakeEpochs(t *testing.T) {
	for _, mine := range epochs {
		for _, theirs := range epochs {
			e := end(t, mine, 1, 1, "s0", "s1", "s2")
			wantTake(t, e, tell(mine, 0, 1, "untold").bytes(), api.OK)
			wantTake(t, e, tell(theirs, 2, 0, "n0", "n1", "n2", "n3").bytes(), api.OK)
			switch {
			case theirs < mine:
				wantLeft(t, e, 2)
				wantTick(t, e, tell(mine, 2, 1, "s1", "s2"))
				wantCame(t, e, "untold")
			case theirs > mine:
				wantLeft(t, e, 0)
				wantTick(t, e, tell(theirs, 4, 0))
				wantCame(t, e, "n0", "n1", "n2", "n3")
			default:
				wantLeft(t, e, 1)
				wantTick(t, e, tell(mine, 4, 2, "s2"))
				wantCame(t, e, "untold", "n2", "n3")
			}
		}
	}
}

// P6.4: a greater epoch resets also where it brings nothing; behind it the old epoch is a lesser one.
func TestTakeGreaterEpochOfNone(t *testing.T) {
	e := end(t, 3, 1, 0, "s0")
	wantTake(t, e, tell(3, 0, 1, "untold").bytes(), api.OK)
	wantTake(t, e, tell(4, 0, 5).bytes(), api.OK)
	wantLeft(t, e, 0)
	wantCame(t, e)
	wantTick(t, e, tell(4, 0, 0))
	wantTake(t, e, tell(3, 0, 0, "late").bytes(), api.OK)
	wantCame(t, e)
	wantTake(t, e, tell(4, 0, 0, "new").bytes(), api.OK)
	wantCame(t, e, "new")
}

// P6.4: got are none, fewer, as many as were sent; a number that is more says nothing, and what is
// got stays so, whatever comes late.
func TestTakeGot(t *testing.T) {
	sent := []string{"s0", "s1", "s2", "s3", "s4"}
	for got := 0; got <= 5; got++ {
		for _, come := range []uint32{0, 1, 2, 3, 4, 5, 6, 7, 37, 256, 261, 1 << 16, math.MaxInt32, math.MaxInt32 + 1, math.MaxUint32 - 1, math.MaxUint32} {
			e := end(t, 3, 0, got, sent...)
			wantTake(t, e, tell(3, come, 0).bytes(), api.OK)
			now := got
			if come <= 5 && int(come) > got {
				now = int(come)
			}
			wantLeft(t, e, 5-now)
			wantTick(t, e, tell(3, 0, uint32(now), sent[now:]...))
		}
	}
}

// P6.4: as many are got as come there says, also past the window.
func TestTakeGotPastWindow(t *testing.T) {
	e := New(3)
	for i := range 100 {
		wantSend(t, e, []byte{byte(i)}, api.OK)
	}
	wantTake(t, e, tell(3, 101, 0).bytes(), api.OK)
	wantLeft(t, e, 100)
	wantTake(t, e, tell(3, 99, 0).bytes(), api.OK)
	wantLeft(t, e, 1)
	wantTick(t, e, tell(3, 0, 99, "c"))
	wantTake(t, e, tell(3, 100, 0).bytes(), api.OK)
	wantTick(t, e, tell(3, 0, 100))
}

// P6.4: what is said to have come there ahead of a Reset's new sends is not theirs.
func TestTakeGotBehindReset(t *testing.T) {
	e := end(t, 3, 0, 0, "s0", "s1")
	wantTake(t, e, tell(4, 2, 0).bytes(), api.OK)
	wantSend(t, e, []byte("n0"), api.OK)
	wantLeft(t, e, 1)
	wantTick(t, e, tell(4, 0, 0, "n0"))
	wantTake(t, e, tell(4, 1, 0).bytes(), api.OK)
	wantLeft(t, e, 0)
}

// P6.4: one datagram says both: what is got, and what comes; the one stands without the other.
func TestTakeBoth(t *testing.T) {
	e := end(t, 3, 2, 0, "s0", "s1")
	wantTake(t, e, tell(3, 1, 2, "c2").bytes(), api.OK)
	wantLeft(t, e, 1)
	wantCame(t, e, "c2")
	wantTake(t, e, tell(3, 9, 3, "c3").bytes(), api.OK)
	wantLeft(t, e, 1)
	wantCame(t, e, "c3")
	wantTake(t, e, tell(3, 2, 9, "c9").bytes(), api.OK)
	wantLeft(t, e, 0)
	wantCame(t, e)
}

// P6.4: the message whose number is how many have come has come, and the next behind it; others are
// nothing. Numbers do not wrap round.
func TestTakeNumbers(t *testing.T) {
	list := []string{"m0", "m1", "m2", "m3", "m4"}
	for come := range 8 {
		firsts := []uint32{math.MaxUint32 - 4, math.MaxUint32 - 3, math.MaxUint32 - 1, math.MaxUint32, math.MaxInt32, 1 << 16, 256}
		for first := range uint32(14) {
			firsts = append(firsts, first)
		}
		for _, first := range firsts {
			e := end(t, 3, come, 0)
			wantTake(t, e, tell(3, 0, first, list...).bytes(), api.OK)
			var want []string
			if skip := come - int(first); skip >= 0 && skip < 5 {
				want = list[skip:]
			}
			wantCame(t, e, want...)
			wantTick(t, e, tell(3, uint32(come+len(want)), 0))
		}
	}
}

// P6.5: in order, once; what comes behind a Came is told by the next one.
func TestCame(t *testing.T) {
	e := New(3)
	wantCame(t, e)
	wantTake(t, e, tell(3, 0, 0, "a", "").bytes(), api.OK)
	wantTake(t, e, tell(3, 0, 2, "b").bytes(), api.OK)
	wantCame(t, e, "a", "", "b")
	wantCame(t, e)
	wantTake(t, e, tell(3, 0, 1, "", "b", "c").bytes(), api.OK)
	wantCame(t, e, "c")
	wantCame(t, e)
	for i := range 5000 {
		wantTake(t, e, tell(3, 0, uint32(4+i), fmt.Sprint(i)).bytes(), api.OK)
	}
	got := e.Came()
	if len(got) != 5000 {
		t.Fatalf("%d came, want 5000", len(got))
	}
	for i, m := range got {
		if string(m) != fmt.Sprint(i) {
			t.Errorf("%d came as %q", i, m)
		}
	}
	wantCame(t, e)
}

// P6.5: Left is what is sent and not got, neither what has come nor what was refused.
func TestLeft(t *testing.T) {
	e := New(3)
	for i := range 50 {
		wantLeft(t, e, i)
		wantSend(t, e, nil, api.OK)
		wantSend(t, e, make([]byte, 8193), api.ErrLong)
		wantTake(t, e, tell(3, 0, uint32(i), "c").bytes(), api.OK)
	}
	for i := range 51 {
		wantTake(t, e, tell(3, uint32(i), 0).bytes(), api.OK)
		wantLeft(t, e, 50-i)
	}
}

// A nil end: ErrNil ahead of every other error, none, 0, and nothing.
func TestNil(t *testing.T) {
	var e *End
	for _, b := range [][]byte{nil, {}, []byte("b"), make([]byte, 8193), tell(0, 0, 0, "m").bytes(), sealed(nil)} {
		wantSend(t, e, b, api.ErrNil)
		wantTake(t, e, b, api.ErrNil)
	}
	for _, epoch := range epochs {
		e.Reset(epoch)
	}
	if e.Tick() != nil || e.Came() != nil || e.Left() != 0 {
		t.Error("a nil end tells something")
	}
}

// model is an end as the chapter's words have it: it keeps everything.
type model struct {
	epoch     uint32
	sent      [][]byte
	got       int
	came      [][]byte
	cameAsked int
}

func (m *model) send(b []byte) api.Errno {
	if len(b) > 8192 {
		return api.ErrLong
	}
	if len(m.sent)-m.got == 4096 {
		return api.ErrFull
	}
	m.sent = append(m.sent, slices.Clone(b))
	return api.OK
}

func (m *model) tick() []byte {
	d := told{epoch: m.epoch, come: uint32(len(m.came)), first: uint32(m.got)}
	for _, b := range m.sent[m.got:] {
		more := d
		more.messages = append(slices.Clone(d.messages), b)
		if len(more.messages) > 32 || len(more.inside()) > 1<<14 {
			break
		}
		d = more
	}
	return d.bytes()
}

func (m *model) take(b []byte) api.Errno {
	if len(b) < 4 {
		return api.ErrShort
	}
	inside := b[:len(b)-4]
	if !bytes.Equal(sealed(inside), b) {
		return api.ErrTorn
	}
	if len(inside) < 14 {
		return api.ErrShort
	}
	d := told{binary.BigEndian.Uint32(inside), binary.BigEndian.Uint32(inside[4:]), binary.BigEndian.Uint32(inside[8:]), nil}
	rest := inside[14:]
	for range binary.BigEndian.Uint16(inside[12:]) {
		if len(rest) < 2 || len(rest)-2 < int(binary.BigEndian.Uint16(rest)) {
			return api.ErrMessage
		}
		n := int(binary.BigEndian.Uint16(rest))
		d.messages = append(d.messages, slices.Clone(rest[2:2+n]))
		rest = rest[2+n:]
	}
	long := func(m []byte) bool { return len(m) > 8192 }
	if len(rest) > 0 || len(d.messages) > 32 || slices.ContainsFunc(d.messages, long) {
		return api.ErrMessage
	}
	m.apply(d)
	return api.OK
}

func (m *model) apply(d told) {
	if d.epoch < m.epoch {
		return
	}
	if d.epoch > m.epoch {
		*m = model{epoch: d.epoch}
	}
	if int64(d.come) <= int64(len(m.sent)) && int64(d.come) > int64(m.got) {
		m.got = int(d.come)
	}
	for i, b := range d.messages {
		if int64(d.first)+int64(i) == int64(len(m.came)) {
			m.came = append(m.came, b)
		}
	}
}

func (m *model) tell() [][]byte {
	list := m.came[m.cameAsked:]
	m.cameAsked = len(m.came)
	return list
}

// near is a number about n, and seldom any number.
func near(r *rand.Rand, n uint32) uint32 {
	switch r.Intn(12) {
	case 0:
		return r.Uint32()
	case 1:
		return math.MaxUint32 - uint32(r.Intn(3))
	case 2, 3:
		return n - uint32(r.Intn(40))
	case 4, 5:
		return n + uint32(r.Intn(40))
	}
	return n
}

// anything is a datagram that may come to an end in that state: many that are none.
func anything(r *rand.Rand, m *model) []byte {
	d := told{epoch: m.epoch, come: near(r, uint32(m.got)), first: near(r, uint32(len(m.came)))}
	if r.Intn(40) == 0 {
		d.epoch += uint32(r.Intn(3)) - 1
	}
	count := r.Intn(4)
	if r.Intn(10) == 0 {
		count = r.Intn(36)
	}
	for range count {
		n := r.Intn(5)
		if r.Intn(30) == 0 {
			n = 8185 + r.Intn(10)
		}
		d.messages = append(d.messages, random(r, n))
	}
	inside := d.inside()
	switch r.Intn(20) {
	case 0:
		inside = inside[:r.Intn(len(inside))]
	case 1:
		inside = append(inside, random(r, 1+r.Intn(4))...)
	case 2:
		inside[12+r.Intn(len(inside)-12)] = byte(r.Intn(8))
	}
	b := sealed(inside)
	if r.Intn(20) == 0 {
		b[r.Intn(len(b))] ^= 1 << r.Intn(8)
	}
	return b
}

// step does one thing to both.
func step(t *testing.T, r *rand.Rand, e *End, m *model) {
	t.Helper()
	switch r.Intn(16) {
	case 0, 1, 2:
		for range r.Intn(40) {
			b := random(r, r.Intn(5))
			if r.Intn(50) == 0 {
				b = random(r, 8190+r.Intn(5))
			}
			wantSend(t, e, b, m.send(b))
		}
	case 3, 4:
		if got, want := e.Came(), m.tell(); !same(got, want) {
			t.Errorf("Came: %s, want %s", short(got), short(want))
		}
	case 5:
		if r.Intn(20) == 0 {
			epoch := m.epoch + uint32(r.Intn(3)) - 1
			e.Reset(epoch)
			*m = model{epoch: epoch}
		}
	default:
		b := anything(r, m)
		wantTake(t, e, b, m.take(b))
	}
	wantLeft(t, e, len(m.sent)-m.got)
}

// P6.1 to P6.5: any calls, against the chapter's words; several ends side by side, which know nothing
// of one another.
func TestAgainstWords(t *testing.T) {
	r := rand.New(rand.NewSource(63))
	for range 60 {
		var ends [3]*End
		var models [3]*model
		for i := range ends {
			epoch := epochs[r.Intn(len(epochs))]
			ends[i], models[i] = New(epoch), &model{epoch: epoch}
		}
		for range 600 {
			i := r.Intn(len(ends))
			step(t, r, ends[i], models[i])
			if r.Intn(4) == 0 {
				if got := ends[i].Tick(); len(got) != 1 || !bytes.Equal(got[0], models[i].tick()) {
					t.Fatalf("Tick tells %s", short(got))
				}
			}
		}
		if t.Failed() {
			return
		}
	}
}

// side is one end of a line under trial, and what was and is to be.
type side struct {
	end    *End
	sent   [][]byte
	came   [][]byte
	flight [][]byte // what Tick told at any time, to the other side
}

func (s *side) send(t *testing.T, b []byte) {
	t.Helper()
	wantSend(t, s.end, b, api.OK)
	s.sent = append(s.sent, b)
}

// beginning holds what came to s against what was sent to it.
func (s *side) beginning(t *testing.T, from *side) {
	t.Helper()
	s.came = append(s.came, s.end.Came()...)
	if len(s.came) > len(from.sent) || !same(s.came, from.sent[:len(s.came)]) {
		t.Fatalf("came: %s, sent: %s", short(s.came), short(from.sent))
	}
	if got := len(from.sent) - from.end.Left(); got > len(s.came) {
		t.Fatalf("%d are got, but %d came", got, len(s.came))
	}
}

// spoilt is something that crc.Open refuses: up to 32 bits that stand side by side changed, or bytes
// lost at its ends.
func spoilt(r *rand.Rand, b []byte) []byte {
	b = slices.Clone(b)
	if r.Intn(3) == 0 {
		b = b[:len(b)-1-r.Intn(len(b))]
	} else {
		first := r.Intn(8*len(b) - 32)
		for i := range 1 + r.Intn(32) {
			if i == 0 || r.Intn(2) == 0 {
				b[(first+i)/8] ^= 1 << ((first + i) % 8)
			}
		}
	}
	if cut := len(b) - 4; cut >= 0 && bytes.Equal(sealed(b[:cut]), b) {
		return nil
	}
	return b
}

// bring takes to s something that from told at any time, or a spoilt form of it.
func (s *side) bring(t *testing.T, r *rand.Rand, from *side) {
	t.Helper()
	if len(from.flight) == 0 {
		return
	}
	late := r.Intn(len(from.flight))
	if r.Intn(2) == 0 {
		late = len(from.flight) - 1 - r.Intn(min(3, len(from.flight)))
	}
	b := from.flight[late]
	if r.Intn(4) == 0 {
		if e := s.end.Take(spoilt(r, b)); e != api.ErrTorn && e != api.ErrShort {
			t.Fatalf("Take of what is spoilt: %v", e)
		}
		return
	}
	wantTake(t, s.end, b, api.OK)
}

// P6.6: whatever comes late, twice, in another order, not at all or spoilt: what came is a beginning
// of what was sent, at every moment.
func TestInOrderOnce(t *testing.T) {
	r := rand.New(rand.NewSource(66))
	for range 150 {
		epoch := epochs[r.Intn(len(epochs))]
		sides := [2]*side{{end: New(epoch)}, {end: New(epoch)}}
		often := 1 + r.Intn(6)
		for range 400 {
			i := r.Intn(2)
			s, other := sides[i], sides[1-i]
			switch r.Intn(3 + often) {
			case 0:
				for range r.Intn(12) {
					s.send(t, random(r, r.Intn(4)))
				}
			case 1:
				if r.Intn(10) == 0 {
					s.send(t, random(r, 8000+r.Intn(193)))
				}
			case 2:
				s.flight = append(s.flight, s.end.Tick()...)
			default:
				s.bring(t, r, other)
			}
			s.beginning(t, other)
			other.beginning(t, s)
		}
		if t.Failed() {
			return
		}
	}
}

// lossy says which of what an end tells comes: of any k one behind the other at least one.
type lossy struct {
	k    int
	lost int
	r    *rand.Rand // nil: as few as may be
}

func (l *lossy) comes() bool {
	l.lost++
	if l.lost == l.k || l.r != nil && l.r.Intn(3) == 0 {
		l.lost = 0
		return true
	}
	return false
}

// run lets both ends tick until all has come and is got, at the most as often as most says.
func run(t *testing.T, sides [2]*side, ways [2]*lossy, most int) {
	t.Helper()
	for range most {
		done := true
		for i, s := range sides {
			done = done && s.end.Left() == 0 && len(sides[1-i].came) == len(s.sent)
		}
		if done {
			return
		}
		for i, s := range sides {
			for _, b := range s.end.Tick() {
				if ways[i].comes() {
					wantTake(t, sides[1-i].end, b, api.OK)
				}
			}
		}
		for i, s := range sides {
			s.beginning(t, sides[1-i])
		}
	}
}

func wantArrived(t *testing.T, sides [2]*side, what string) {
	t.Helper()
	for i, s := range sides {
		sides[1-i].beginning(t, s)
		if s.end.Left() != 0 || !same(sides[1-i].came, s.sent) {
			t.Fatalf("%s: %d left, %d of %d came", what, s.end.Left(), len(sides[1-i].came), len(s.sent))
		}
	}
}

// P6.7: where of any k datagrams one comes, all has come and is got behind 2 k (messages + 1) Ticks:
// few messages and many, one way and both, such as go side by side and such as go alone.
func TestItComes(t *testing.T) {
	r := rand.New(rand.NewSource(67))
	for k := 1; k <= 5; k++ {
		for _, counts := range [][2]int{{0, 0}, {1, 0}, {0, 1}, {2, 0}, {7, 0}, {7, 3}, {40, 0}, {40, 33}, {100, 100}} {
			for _, size := range []int{0, 1, 600, 8192} {
				for shift := range k {
					ways := [2]*lossy{{k: k}, {k: k, lost: shift}}
					if r.Intn(2) == 0 {
						ways[0].r, ways[1].r = r, r
					}
					sides := [2]*side{{end: New(1)}, {end: New(1)}}
					for i, n := range counts {
						for range n {
							sides[i].send(t, random(r, size))
						}
					}
					run(t, sides, ways, 2*k*(counts[0]+counts[1]+1))
					wantArrived(t, sides, fmt.Sprint(k, counts, size, shift))
				}
			}
		}
	}
}

// P6.7: 4096 messages that wait come all.
func TestItComesOfFull(t *testing.T) {
	sides := [2]*side{{end: New(1)}, {end: New(1)}}
	for i := range 4096 {
		sides[0].send(t, fmt.Appendf(nil, "%d", i))
	}
	run(t, sides, [2]*lossy{{k: 3}, {k: 3}}, 2*3*4097)
	wantArrived(t, sides, "4096")
}

// P6.6, P6.7: a line that was as bad as may be for a while brings all behind it.
func TestItComesBehindBadTimes(t *testing.T) {
	r := rand.New(rand.NewSource(68))
	for range 40 {
		sides := [2]*side{{end: New(2)}, {end: New(2)}}
		for range 300 {
			i := r.Intn(2)
			switch r.Intn(4) {
			case 0:
				sides[i].send(t, random(r, r.Intn(700)))
			case 1:
				sides[i].flight = append(sides[i].flight, sides[i].end.Tick()...)
			default:
				sides[i].bring(t, r, sides[1-i])
			}
			sides[i].beginning(t, sides[1-i])
		}
		k := 1 + r.Intn(4)
		run(t, sides, [2]*lossy{{k: k}, {k: k, r: r}}, 2*k*(len(sides[0].sent)+len(sides[1].sent)+1))
		wantArrived(t, sides, "behind bad times")
	}
}

// roomy is b with room behind its end, which holds something.
func roomy(b []byte) []byte {
	all := append(slices.Clone(b), bytes.Repeat([]byte{0xa5}, 40)...)
	return all[:len(b)]
}

func fill(b []byte) {
	all := b[:cap(b)]
	for i := range all {
		all[i] = 0xee
	}
}

// R3: what is handed in stays as it was, with the room behind its end.
func TestHandedInStays(t *testing.T) {
	e := New(3)
	list := [][]byte{nil, []byte("m"), make([]byte, 8192), make([]byte, 8193), tell(3, 0, 0, "a", "b").bytes(),
		tell(3, 1, 1, "a", "b").bytes(), tell(2, 0, 0, "a").bytes(), tell(4, 0, 0, "a").bytes(), sealed(make([]byte, 13)), {1, 2, 3, 4, 5}}
	for _, b := range list {
		in := roomy(b)
		before := slices.Clone(in[:cap(in)])
		e.Send(in)
		e.Take(in)
		for range 2 {
			e.Tick()
			fillAll(e.Came())
		}
		if !bytes.Equal(in[:cap(in)], before) {
			t.Errorf("what was handed in was changed: %s", short([][]byte{b}))
		}
	}
}

func fillAll(list [][]byte) {
	for _, b := range list {
		fill(b)
	}
}

// R3: what is handed in is not kept.
func TestHandedInIsNotKept(t *testing.T) {
	e := New(3)
	m := roomy([]byte("sent"))
	wantSend(t, e, m, api.OK)
	fill(m)
	d := roomy(tell(3, 0, 0, "one", "two").bytes())
	wantTake(t, e, d, api.OK)
	fill(d)
	wantTick(t, e, tell(3, 2, 0, "sent"))
	wantCame(t, e, "one", "two")
}

// R3: what is told is new memory: no later answer shows what is written there.
func TestToldIsNew(t *testing.T) {
	e := New(3)
	wantSend(t, e, []byte("s0"), api.OK)
	wantSend(t, e, []byte("s1"), api.OK)
	want := tell(3, 0, 0, "s0", "s1")
	for range 3 {
		list := e.Tick()
		fillAll(list)
		list[0] = nil
		wantTick(t, e, want)
	}
	wantTake(t, e, tell(3, 0, 0, "one", "two", "three").bytes(), api.OK)
	list := e.Came()
	fillAll(list)
	clear(list[:cap(list)])
	wantTake(t, e, tell(3, 1, 3, "four", "five").bytes(), api.OK)
	clear(list[:cap(list)])
	wantTick(t, e, tell(3, 5, 1, "s1"))
	wantCame(t, e, "four", "five")
}

// R3: messages that are told together, and datagrams, share no memory: not even behind their ends.
func TestToldShareNothing(t *testing.T) {
	for spoil := range 5 {
		e := New(3)
		wantTake(t, e, tell(3, 0, 0, "one", "", "three").bytes(), api.OK)
		wantTake(t, e, tell(3, 0, 3, "four", "five").bytes(), api.OK)
		list := e.Came()
		fill(list[spoil])
		for i, want := range []string{"one", "", "three", "four", "five"} {
			if i != spoil && string(list[i]) != want {
				t.Errorf("with %d written over, %d is %q", spoil, i, list[i])
			}
		}
	}
}

// R3: what one end told and another took is neither's any more.
func TestEndsShareNothing(t *testing.T) {
	a, b := New(3), New(3)
	wantSend(t, a, []byte("m"), api.OK)
	wantTake(t, b, a.Tick()[0], api.OK)
	list := b.Came()
	wantSend(t, b, list[0], api.OK)
	fillAll(list)
	wantTick(t, a, tell(3, 0, 0, "m"))
	wantTick(t, b, tell(3, 1, 0, "m"))
}

// R1: any bytes, sealed or not, end in an answer.
func TestAnyBytes(t *testing.T) {
	r := rand.New(rand.NewSource(69))
	e := New(math.MaxUint32)
	for range 30000 {
		b := random(r, r.Intn(40))
		if r.Intn(4) > 0 {
			for i := range b {
				b[i] &= byte(r.Intn(4))
			}
		}
		m := &model{epoch: math.MaxUint32}
		wantTake(t, e, b, m.take(b))
		b = sealed(b)
		wantTake(t, e, b, m.take(b))
	}
}
