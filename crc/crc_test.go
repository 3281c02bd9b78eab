package crc

import (
	"bytes"
	"hash/crc32"
	"math/rand"
	"slices"
	"sync"
	"testing"

	"tollbridge/api"
)

// most is how many bytes Seal takes.
const most = 1 << 14

// plain is the seal as the chapter's words tell it, bit by bit.
func plain(b []byte) uint32 {
	n := ^uint32(0)
	for _, c := range b {
		n ^= uint32(c)
		for range 8 {
			low := n % 2
			n /= 2
			if low == 1 {
				n ^= 0xEDB88320
			}
		}
	}
	return ^n
}

// plainSealed is b with its seal behind it, the lowest byte first.
func plainSealed(b []byte) []byte {
	n := plain(b)
	out := slices.Clone(b)
	for range 4 {
		out = append(out, byte(n%256))
		n /= 256
	}
	return out
}

func random(r *rand.Rand, n int) []byte {
	b := make([]byte, n)
	r.Read(b)
	return b
}

// rows has bytes of many lengths: none, few, many, and those about the bound.
func rows() [][]byte {
	r := rand.New(rand.NewSource(5))
	list := [][]byte{nil, {}, []byte("123456789")}
	for n := range 300 {
		list = append(list, random(r, n), make([]byte, n), bytes.Repeat([]byte{0xff}, n))
	}
	for n := most - 3; n <= most; n++ {
		list = append(list, random(r, n), make([]byte, n), bytes.Repeat([]byte{0xff}, n))
	}
	return list
}

func wantSum(t *testing.T, b []byte, want uint32) {
	t.Helper()
	if got := Sum(b); got != want {
		t.Errorf("Sum(%x) = %#x, want %#x", b, got, want)
	}
}

func wantSealed(t *testing.T, b, want []byte) {
	t.Helper()
	if got, e := Seal(b); e != api.OK || !bytes.Equal(got, want) {
		t.Errorf("Seal(%x) = %x, %v, want %x", b, got, e, want)
	}
}

func wantOpened(t *testing.T, b, want []byte) {
	t.Helper()
	if got, e := Open(b); e != api.OK || !bytes.Equal(got, want) {
		t.Errorf("Open(%x) = %x, %v, want %x", b, got, e, want)
	}
}

// wantRefused holds an Open against its error, and against zeros beside it.
func wantRefused(t *testing.T, b []byte, want api.Errno) {
	t.Helper()
	if got, e := Open(b); e != want || len(got) != 0 {
		t.Errorf("Open(%x) = %x, %v, want %v", b, got, e, want)
	}
}

func seal(t *testing.T, b []byte) []byte {
	t.Helper()
	sealed, e := Seal(b)
	if e != api.OK {
		t.Fatalf("Seal of %d bytes: %v", len(b), e)
	}
	return sealed
}

// P5.1: the chapter's examples, and sums that are known of CRC-32.
func TestSum(t *testing.T) {
	known := []struct {
		text string
		sum  uint32
	}{
		{"", 0},
		{"123456789", 0xcbf43926},
		{"\x00", 0xd202ef8d},
		{"\x00\x00\x00\x00", 0x2144df1c},
		{"\xff", 0xff000000},
		{"\xff\xff\xff\xff", 0xffffffff},
		{"a", 0xe8b7be43},
		{"abc", 0x352441c2},
		{"The quick brown fox jumps over the lazy dog", 0x414fa339},
	}
	for _, k := range known {
		wantSum(t, []byte(k.text), k.sum)
	}
	wantSum(t, nil, 0)
}

// P5.1: every byte alone, ahead of others and behind them.
func TestSumOfEveryByte(t *testing.T) {
	for c := range 256 {
		for _, b := range [][]byte{{byte(c)}, {byte(c), 1, 2}, {0x80, 0xff, byte(c)}, {byte(c), byte(c)}} {
			wantSum(t, b, plain(b))
		}
	}
}

// P5.1: any bytes, against the chapter's words and against the library's sum.
// Sum has no bound of its own: it goes on where Seal ends.
func TestSumAgainstWords(t *testing.T) {
	r := rand.New(rand.NewSource(51))
	list := append(rows(), random(r, most+1), random(r, 1<<16), make([]byte, 1<<17+3))
	for _, b := range list {
		if got := Sum(b); got != plain(b) || got != crc32.ChecksumIEEE(b) {
			t.Errorf("Sum of %d bytes = %#x, want %#x", len(b), got, plain(b))
		}
	}
}

// P5.2: byte for byte, the lowest byte of the seal first.
func TestSeal(t *testing.T) {
	wantSealed(t, nil, []byte{0, 0, 0, 0})
	wantSealed(t, []byte{}, []byte{0, 0, 0, 0})
	wantSealed(t, []byte("123456789"), []byte("123456789\x26\x39\xf4\xcb"))
	wantSealed(t, []byte("a"), []byte("a\x43\xbe\xb7\xe8"))
	wantSealed(t, []byte{0xff}, []byte{0xff, 0, 0, 0, 0xff})
	for _, b := range rows() {
		if got, e := Seal(b); e != api.OK || !bytes.Equal(got, plainSealed(b)) {
			t.Errorf("Seal of %d bytes: %d bytes, %v", len(b), len(got), e)
		}
	}
}

// P5.2: 2^14 bytes are taken, one more is not, nor are many more, whatever they are.
func TestSealLong(t *testing.T) {
	r := rand.New(rand.NewSource(52))
	for _, n := range []int{most - 1, most} {
		if got, e := Seal(random(r, n)); e != api.OK || len(got) != n+4 {
			t.Errorf("Seal of %d bytes: %d bytes, %v", n, len(got), e)
		}
	}
	for _, n := range []int{most + 1, most + 2, most + 4, 2 * most, 1 << 16, 1<<16 + 1, 1 << 20} {
		for _, b := range [][]byte{make([]byte, n), random(r, n)} {
			if got, e := Seal(b); e != api.ErrLong || len(got) != 0 {
				t.Errorf("Seal of %d bytes: %d bytes, %v, want ErrLong", n, len(got), e)
			}
		}
	}
}

// P5.3: fewer than four bytes are too few, whatever they are; four 0s are none with their seal.
func TestOpenShort(t *testing.T) {
	wantRefused(t, nil, api.ErrShort)
	wantRefused(t, []byte{}, api.ErrShort)
	for n := 1; n <= 3; n++ {
		for _, c := range []byte{0, 1, 2, 0x80, 0xff} {
			wantRefused(t, bytes.Repeat([]byte{c}, n), api.ErrShort)
		}
	}
	wantRefused(t, []byte{1, 2, 3}, api.ErrShort)
	wantRefused(t, make([]byte, 3, 8), api.ErrShort)
	wantOpened(t, make([]byte, 4), nil)
}

// P5.3: of four bytes only 0s are opened.
func TestOpenFour(t *testing.T) {
	for place := range 4 {
		for c := 1; c < 256; c++ {
			b := make([]byte, 4)
			b[place] = byte(c)
			wantRefused(t, b, api.ErrTorn)
		}
	}
	wantRefused(t, []byte{0xff, 0xff, 0xff, 0xff}, api.ErrTorn)
	wantRefused(t, []byte{1, 2, 3, 4}, api.ErrTorn)
}

// P5.3: five bytes are one byte and its seal; of all other bytes ahead of that seal none is opened.
func TestOpenFive(t *testing.T) {
	for c := range 256 {
		b := plainSealed([]byte{byte(c)})
		wantOpened(t, b, []byte{byte(c)})
		for other := range 256 {
			if other != c {
				wantRefused(t, append([]byte{byte(other)}, b[1:]...), api.ErrTorn)
			}
		}
	}
	wantRefused(t, make([]byte, 5), api.ErrTorn)
}

// P5.3: any bytes with their seal are opened, and Open has no bound of its own.
func TestOpen(t *testing.T) {
	wantOpened(t, []byte("123456789\x26\x39\xf4\xcb"), []byte("123456789"))
	r := rand.New(rand.NewSource(53))
	list := append(rows(), random(r, most+1), random(r, 1<<16), random(r, 1<<17+1))
	for _, b := range list {
		if got, e := Open(plainSealed(b)); e != api.OK || !bytes.Equal(got, b) {
			t.Errorf("Open of %d bytes and their seal: %d bytes, %v", len(b), len(got), e)
		}
	}
}

// P5.3: a seal that is not that of the bytes ahead: of other bytes, in the other order, in another
// place, with a byte more or less, or with the last step left out.
func TestOpenTorn(t *testing.T) {
	b := []byte("123456789")
	other := plainSealed([]byte("123456780"))[9:]
	list := [][]byte{
		[]byte("123456789\xcb\xf4\x39\x26"),
		[]byte("123456789\x39\x26\xcb\xf4"),
		[]byte("123456789\xf4\xcb\x26\x39"),
		[]byte("123456789\xd9\xc6\x0b\x34"),
		[]byte("123456789\x00\x00\x00\x00"),
		[]byte("123456789\xff\xff\xff\xff"),
		[]byte("\x26\x39\xf4\xcb123456789"),
		[]byte("123456789\x26\x39\xf4\xcb\x00"),
		[]byte("\x00123456789\x26\x39\xf4\xcb"),
		[]byte("123456789\x26\x39\xf4"),
		[]byte("23456789\x26\x39\xf4\xcb"),
		[]byte("12345679\x26\x39\xf4\xcb"),
		[]byte("213456789\x26\x39\xf4\xcb"),
		[]byte("987654321\x26\x39\xf4\xcb"),
		[]byte("123456789"),
		append(slices.Clone(b), other...),
		bytes.Repeat([]byte("123456789\x26\x39\xf4\xcb"), 2),
	}
	for _, b := range list {
		wantRefused(t, b, api.ErrTorn)
	}
}

// P5.3: any bytes, against the chapter's words; some with the seal, some with one that is nearly it.
func TestOpenAgainstWords(t *testing.T) {
	r := rand.New(rand.NewSource(54))
	for range 20000 {
		b := random(r, r.Intn(12))
		if r.Intn(2) == 0 {
			b = plainSealed(b)
		}
		for len(b) > 0 && r.Intn(2) == 0 {
			b[r.Intn(len(b))] = byte(r.Intn(256))
		}
		switch cut := len(b) - 4; {
		case cut < 0:
			wantRefused(t, b, api.ErrShort)
		case bytes.Equal(plainSealed(b[:cut]), b):
			wantOpened(t, b, b[:cut])
		default:
			wantRefused(t, b, api.ErrTorn)
		}
	}
}

// P5.4: there and back, for all lengths and for bytes that have a seal already.
func TestThereAndBack(t *testing.T) {
	for _, b := range rows() {
		if got, e := Open(seal(t, b)); e != api.OK || !bytes.Equal(got, b) {
			t.Errorf("Open of Seal of %d bytes: %d bytes, %v", len(b), len(got), e)
		}
	}
	once := seal(t, []byte("123456789"))
	twice := seal(t, once)
	wantOpened(t, twice, once)
	wantOpened(t, once, []byte("123456789"))
}

// changed is b with those bits of pattern changed that are set, from bit first on;
// bits are numbered byte by byte, in each byte the lowest first.
func changed(b []byte, first int, pattern uint64) []byte {
	out := slices.Clone(b)
	for i := first; pattern != 0; i++ {
		if pattern&1 == 1 {
			out[i/8] ^= 1 << (i % 8)
		}
		pattern >>= 1
	}
	return out
}

// spread has patterns whose first and last bit are set, width bits from the one to the other:
// all bits between them, none, and some.
func spread(r *rand.Rand, width int) []uint64 {
	ends := uint64(1) | 1<<(width-1)
	all := uint64(1)<<width - 1
	list := []uint64{ends, all, ends | all&0x5555555555555555, ends | all&0xedb88320}
	for range 4 {
		list = append(list, ends|all&r.Uint64())
	}
	return list
}

// P5.4: one bit changed, at every place of bytes of every length up to 40, the seal's places too.
func TestOneBitChanged(t *testing.T) {
	r := rand.New(rand.NewSource(55))
	for n := range 41 {
		b := seal(t, random(r, n))
		for first := range 8 * len(b) {
			wantRefused(t, changed(b, first, 1), api.ErrTorn)
		}
	}
}

// P5.4: up to 32 bits side by side, from every place on: within one byte, across the ends of bytes,
// from the bytes into their seal, and within the seal alone.
func TestBitsChanged(t *testing.T) {
	r := rand.New(rand.NewSource(56))
	for _, n := range []int{0, 1, 2, 3, 4, 5, 8, 13, 21} {
		for _, b := range [][]byte{seal(t, random(r, n)), seal(t, make([]byte, n))} {
			for width := 1; width <= 32; width++ {
				for first := 0; first+width <= 8*len(b); first++ {
					for _, pattern := range spread(r, width) {
						wantRefused(t, changed(b, first, pattern), api.ErrTorn)
					}
				}
			}
		}
	}
}

// P5.4: every change within eleven bits, at every place.
func TestFewBitsChanged(t *testing.T) {
	b := seal(t, []byte("12345"))
	for first := 0; first+11 <= 8*len(b); first++ {
		for pattern := uint64(1); pattern < 1<<11; pattern++ {
			wantRefused(t, changed(b, first, pattern), api.ErrTorn)
		}
	}
}

// P5.4: the longest that Seal takes, changed at its beginning, in its midst and at its end.
func TestLongestChanged(t *testing.T) {
	r := rand.New(rand.NewSource(57))
	b := seal(t, random(r, most))
	for _, first := range []int{0, 1, 7, 8 * most / 2, 8*most - 31, 8*most - 16, 8*most - 1, 8 * most} {
		for _, pattern := range append(spread(r, 32), 1, 3, 0x80000000) {
			wantRefused(t, changed(b, first, pattern), api.ErrTorn)
		}
	}
}

// P5.3, P5.4: with one bit more than is promised there is a change that Open can't see, and it tells
// the bytes so changed: Open refuses by the seal alone.
func TestBeyondThePromise(t *testing.T) {
	const unseen = 0xedb88320<<1 | 1
	b := seal(t, []byte("12345"))
	for first := 0; first+33 <= 8*len(b); first++ {
		c := changed(b, first, unseen)
		wantOpened(t, c, c[:5])
		wantRefused(t, changed(c, first, 1), api.ErrTorn)
	}
}

// P5.5: the four sums together are 0, also where a row is of 0s or both are one.
func TestFourSums(t *testing.T) {
	r := rand.New(rand.NewSource(58))
	for n := range 200 {
		a, b := random(r, n), random(r, n)
		for _, pair := range [][2][]byte{{a, b}, {a, a}, {a, make([]byte, n)}} {
			both := make([]byte, n)
			for i := range both {
				both[i] = pair[0][i] ^ pair[1][i]
			}
			sums := [4]uint32{Sum(pair[0]), Sum(pair[1]), Sum(both), Sum(make([]byte, n))}
			if sums[0]^sums[1]^sums[2]^sums[3] != 0 {
				t.Errorf("%x and %x: %#x", pair[0], pair[1], sums)
			}
		}
	}
}

// R3: what is handed in stays as it was, with the room behind its end.
func TestHandedInStays(t *testing.T) {
	r := rand.New(rand.NewSource(59))
	for n := range 40 {
		for _, b := range [][]byte{random(r, n), plainSealed(random(r, n))} {
			room := append(slices.Clone(b), 1, 2, 3, 4, 5, 6, 7, 8)
			was := slices.Clone(room)
			Sum(room[:len(b)])
			Seal(room[:len(b)])
			Open(room[:len(b)])
			if !bytes.Equal(room, was) {
				t.Errorf("%x became %x", was, room)
			}
		}
	}
}

// fill writes c over b and over the room behind its end.
func fill(b []byte, c byte) {
	b = b[:cap(b)]
	for i := range b {
		b[i] = c
	}
}

// wantNewMemory holds that two answers of call, and what it is handed, share no memory with one
// another, nor any room behind their ends.
func wantNewMemory(t *testing.T, call func([]byte) ([]byte, api.Errno), b []byte) {
	t.Helper()
	room := append(slices.Clone(b), make([]byte, 8)...)
	was := slices.Clone(room)
	one, e := call(room[:len(b)])
	two, _ := call(room[:len(b)])
	want := slices.Clone(one)
	if e != api.OK || !bytes.Equal(two, want) {
		t.Fatalf("%x: %x and %x, %v", b, one, two, e)
	}
	fill(two, 0xa5)
	if !bytes.Equal(one, want) {
		t.Errorf("%x: two answers share memory", b)
	}
	if !bytes.Equal(room, was) {
		t.Errorf("%x: what was handed in is %x when an answer is written over", was, room)
	}
	fill(room, 0x5a)
	if !bytes.Equal(one, want) {
		t.Errorf("%x: an answer is %x when what was handed in is written over", b, one)
	}
}

// R3: what is told lies in new memory.
func TestNewMemory(t *testing.T) {
	for _, text := range []string{"", "a", "1234", "123456789"} {
		b := []byte(text)
		wantNewMemory(t, Seal, b)
		wantNewMemory(t, Open, plainSealed(b))
	}
}

// The chapter's ways: an object makes its table once, and its own.
func TestStepsMadeOnce(t *testing.T) {
	var s, other steps
	want := s.of(1)
	s.table[1] = want + 1
	if s.of(1) != want+1 {
		t.Error("made again")
	}
	if other.of(1) != want {
		t.Error("not its own")
	}
}

// R2: many who ask at once are told what one alone is told.
func TestManyAtOnce(t *testing.T) {
	b := []byte("123456789")
	sums := make([]uint32, 32)
	var all sync.WaitGroup
	for i := range sums {
		all.Add(1)
		go func() {
			defer all.Done()
			for range 50 {
				sealed, _ := Seal(b)
				opened, _ := Open(sealed)
				sums[i] = Sum(opened)
			}
		}()
	}
	all.Wait()
	for _, n := range sums {
		if n != 0xcbf43926 {
			t.Errorf("%#x", n)
		}
	}
}
