package match

import (
	"math/rand"
	"testing"

	"tollbridge/api"
)

var fieldWidths = [api.Fields]int{
	api.Src: 48, api.Dst: 48, api.Kind: 16, api.Vlan: 12, api.From: 32, api.To: 32,
	api.Proto: 8, api.SPort: 16, api.DPort: 16, api.Port: 16, api.Switch: 16,
}

// all masks nothing.
var all api.Match

func one(field int, value, mask uint64) api.Match {
	var m api.Match
	m.Value[field], m.Mask[field] = value, mask
	return m
}

func to(value, mask uint64) api.Match { return one(api.To, value, mask) }

func ends() api.Match {
	var m api.Match
	for field, width := range fieldWidths {
		m.Mask[field] = 1<<width - 1
		m.Value[field] = 1<<width - 1
	}
	return m
}

// nones are no matches, each for one reason alone.
func nones() []api.Match {
	list := []api.Match{to(5, 2), to(0, 1<<32), {Value: api.Header{api.Src: 1}}}
	for field, width := range fieldWidths {
		for bit := width; bit < 64; bit++ {
			list = append(list, one(field, 0, 1<<bit), one(field, 1<<bit, 1<<bit), one(field, 1<<bit, 0))
		}
		end := uint64(1)<<width - 1
		list = append(list,
			one(field, 0, end+1), one(field, 0, end<<1|1), one(field, end, end<<1|1), one(field, 0, 1<<64-1),
			one(field, 1<<64-1, 1<<64-1), one(field, 1<<64-1, end), one(field, end, end-1), one(field, end, end>>1),
			one(field, 1, 0), one(field, 1<<(width-1), 0))
		m := ends()
		m.Mask[field] &^= 1 // its Value keeps the bit
		list = append(list, m)
		m = ends()
		m.Mask[field] |= 1 << width
		list = append(list, m)
	}
	return list
}

// P2.1: the chapter's examples, and each field's Mask at the end of its width.
func TestCheckOne(t *testing.T) {
	list := []api.Match{all, ends(), to(5, 0xff), to(0, 1<<32-1)}
	for field, width := range fieldWidths {
		end := uint64(1)<<width - 1
		list = append(list, one(field, 0, end), one(field, end, end), one(field, 0, 1<<(width-1)))
		for bit := range width {
			list = append(list, one(field, 0, 1<<bit), one(field, 1<<bit, 1<<bit), one(field, 1<<bit, end))
		}
	}
	for _, m := range list {
		if e := Check(m); e != api.OK {
			t.Errorf("Check(%x) = %v, want OK", m, e)
		}
	}
}

// P2.1 to P2.3: what is no match, on either side.
func TestNoMatch(t *testing.T) {
	others := []api.Match{all, ends(), to(5, 0xff)}
	for _, m := range nones() {
		if e := Check(m); e != api.ErrMatch {
			t.Errorf("Check(%x) = %v, want ErrMatch", m, e)
		}
		for _, h := range []api.Header{{}, m.Value, m.Mask, ends().Value, {api.Kind: 0x800}} {
			if Hits(m, h) {
				t.Errorf("%x is no match, but hits %x", m, h)
			}
		}
		for _, other := range append(others, m) {
			wantNothing(t, m, other)
			wantNothing(t, other, m)
		}
	}
}

func wantNothing(t *testing.T, a, b api.Match) {
	t.Helper()
	if m, ok := Meet(a, b); ok || m != all {
		t.Errorf("Meet(%x, %x) = %x, %v, want nothing", a, b, m, ok)
	}
	if Touch(a, b) {
		t.Errorf("%x touches %x", a, b)
	}
	if Under(a, b) {
		t.Errorf("%x is under %x", a, b)
	}
}

// P2.1: ordinary headers.
func TestHits(t *testing.T) {
	h := api.Header{api.Src: 1, api.Dst: 0xff0000000002, api.Kind: 0x800, api.To: 0x0a0b0c0d, api.Proto: 6, api.DPort: 80, api.Port: 3, api.Switch: 2}
	web := one(api.DPort, 80, 0xffff)
	web.Value[api.To], web.Mask[api.To] = 0x0a000000, 0xff000000
	for _, c := range []struct {
		m    api.Match
		want bool
	}{
		{all, true},
		{to(0x0a000000, 0xff000000), true},
		{to(0x0b000000, 0xff000000), false},
		{to(0x0a0b0c0d, 1<<32-1), true},
		{to(0x0a0b0c0c, 1<<32-1), false},
		{to(0, 2), true},
		{to(2, 2), false},
		{one(api.From, 0, 1<<32-1), true},
		{one(api.From, 1, 1), false},
		{web, true},
		{one(api.Port, 3, 0xffff), true},
		{one(api.Switch, 3, 0xffff), false},
		{api.Match{Value: h, Mask: ends().Mask}, true},
	} {
		if got := Hits(c.m, h); got != c.want {
			t.Errorf("Hits(%x, h) = %v, want %v", c.m, got, c.want)
		}
	}
	h[api.DPort] = 81
	if Hits(web, h) {
		t.Error("one field's Value is enough")
	}
}

// P2.1: every bit of every field is asked where Mask has it, and there alone.
func TestHitsEveryBit(t *testing.T) {
	for field, width := range fieldWidths {
		for bit := range 64 {
			var h api.Header
			h[field] = 1 << bit
			if !Hits(all, h) || !Hits(one(field, 0, (1<<width-1)&^(1<<bit)), h) {
				t.Errorf("field %d: bit %d is asked without a mask", field, bit)
			}
			if bit < width && (Hits(one(field, 0, 1<<bit), h) || !Hits(one(field, 1<<bit, 1<<bit), h) || Hits(one(field, 1<<bit, 1<<bit), api.Header{})) {
				t.Errorf("field %d: bit %d is not asked", field, bit)
			}
		}
	}
}

// P2.1: h may be no header: its bits past a field's width are not asked.
func TestHitsNoHeader(t *testing.T) {
	var h api.Header
	for field := range h {
		h[field] = 1<<64 - 1
	}
	if !Hits(ends(), h) || !Hits(all, h) || Hits(to(0, 1), h) {
		t.Error("a header with every bit is hit wrongly")
	}
	if !Hits(all, api.Header{}) || !Hits(one(api.Kind, 0, 0xffff), api.Header{}) || Hits(ends(), api.Header{}) {
		t.Error("a header of zeros is hit wrongly")
	}
	if !Hits(one(api.Vlan, 5, 4095), api.Header{api.Vlan: 4096 + 5}) {
		t.Error("a bit past the width is asked")
	}
}

// P2.2, P2.3: the chapter's examples, and the edges.
func TestMeetAndUnder(t *testing.T) {
	both := to(0x0a000000, 0xff000000)
	both.Value[api.Port], both.Mask[api.Port] = 3, 0xffff
	for _, c := range []struct {
		a, b, want  api.Match
		meet, under bool
	}{
		{to(0x0a000000, 0xff000000), to(0x0a0b0000, 0xffff0000), to(0x0a0b0000, 0xffff0000), true, false},
		{to(0x0a0b0000, 0xffff0000), to(0x0a000000, 0xff000000), to(0x0a0b0000, 0xffff0000), true, true},
		{to(1, 1), to(2, 3), all, false, false},
		{to(1, 1), to(2, 2), to(3, 3), true, false},
		{to(0, 1), to(0, 2), to(0, 3), true, false},
		{to(1, 3), to(1, 1), to(1, 3), true, true},
		{to(0, 3), to(0, 1), to(0, 3), true, true},
		{to(0, 3), to(1, 1), all, false, false},
		{to(1, 1), to(1, 3), to(1, 3), true, false},
		{to(1, 1), to(0, 1), all, false, false},
		{all, all, all, true, true},
		{ends(), all, ends(), true, true},
		{all, ends(), ends(), true, false},
		{ends(), ends(), ends(), true, true},
		{to(0x0a000000, 0xff000000), one(api.Port, 3, 0xffff), both, true, false},
		{both, one(api.Port, 3, 0xffff), both, true, true},
		{both, one(api.Port, 4, 0xffff), all, false, false},
		{both, one(api.Switch, 4, 0xffff), api.Match{
			Value: api.Header{api.To: 0x0a000000, api.Port: 3, api.Switch: 4},
			Mask:  api.Header{api.To: 0xff000000, api.Port: 0xffff, api.Switch: 0xffff}}, true, false},
	} {
		m, ok := Meet(c.a, c.b)
		if m != c.want || ok != c.meet || Touch(c.a, c.b) != c.meet {
			t.Errorf("Meet(%x, %x) = %x, %v, Touch %v, want %x, %v", c.a, c.b, m, ok, Touch(c.a, c.b), c.want, c.meet)
		}
		if Under(c.a, c.b) != c.under {
			t.Errorf("Under(%x, %x) = %v, want %v", c.a, c.b, !c.under, c.under)
		}
	}
}

// P2.2, P2.3: every bit of every field counts.
func TestEveryBit(t *testing.T) {
	for field, width := range fieldWidths {
		for bit := range width {
			clear, set := one(field, 0, 1<<bit), one(field, 1<<bit, 1<<bit)
			wantNothing(t, clear, set)
			wantNothing(t, set, clear)
			for _, m := range []api.Match{clear, set} {
				if got, ok := Meet(m, all); !ok || got != m || !Under(m, all) || Under(all, m) || !Under(m, m) {
					t.Errorf("field %d: bit %d is lost", field, bit)
				}
			}
			if !Under(ends(), set) || Under(ends(), clear) || Touch(ends(), clear) {
				t.Errorf("field %d: bit %d is not held against the other's", field, bit)
			}
		}
	}
}

// spots are the bits that the small matches play with: an end of each of four
// fields, the last two among them.
var spots = [4]struct{ field, bit int }{{api.Src, 47}, {api.To, 0}, {api.Port, 15}, {api.Switch, 0}}

// smallMatches are all matches over the spots' bits.
func smallMatches() []api.Match {
	list := []api.Match{all}
	for _, s := range spots {
		for _, m := range list {
			m.Mask[s.field] |= 1 << s.bit
			list = append(list, m)
			m.Value[s.field] |= 1 << s.bit
			list = append(list, m)
		}
	}
	return list
}

// smallHeaders have the spots' bits in every way, and any others beside them.
func smallHeaders(r *rand.Rand) []api.Header {
	var list []api.Header
	for n := range 1 << len(spots) {
		var h api.Header
		for field := range h {
			h[field] = r.Uint64()
		}
		for i, s := range spots {
			h[s.field] &^= 1 << s.bit
			h[s.field] |= uint64(n>>i&1) << s.bit
		}
		list = append(list, h)
	}
	return list
}

// P2.4, P2.5: what Meet and Under say of two matches, the headers say too.
func TestHeadersAgree(t *testing.T) {
	matches, headers := smallMatches(), smallHeaders(rand.New(rand.NewSource(1)))
	for _, a := range matches {
		for _, b := range matches {
			m, ok := Meet(a, b)
			under, met := true, false
			for _, h := range headers {
				hitsA, hitsB := Hits(a, h), Hits(b, h)
				if (ok && Hits(m, h)) != (hitsA && hitsB) {
					t.Fatalf("Meet(%x, %x) = %x, %v, but hits %x otherwise", a, b, m, ok, h)
				}
				under = under && (!hitsA || hitsB)
				met = met || hitsA && hitsB
			}
			if ok != met || Touch(a, b) != met {
				t.Fatalf("Meet(%x, %x) tells %v, but there is a header: %v", a, b, ok, met)
			}
			if Under(a, b) != under {
				t.Fatalf("Under(%x, %x) = %v, but its headers say %v", a, b, !under, under)
			}
		}
	}
}

// P2.4: Meet goes both ways, in any order, with itself, and with all.
func TestMeetLaws(t *testing.T) {
	matches := smallMatches()
	for _, a := range matches {
		if m, ok := Meet(a, a); !ok || m != a {
			t.Fatalf("%x meets itself as %x, %v", a, m, ok)
		}
		if m, ok := Meet(all, a); !ok || m != a {
			t.Fatalf("%x meets all as %x, %v", a, m, ok)
		}
		for _, b := range matches {
			ab, okAB := Meet(a, b)
			ba, okBA := Meet(b, a)
			if ab != ba || okAB != okBA {
				t.Fatalf("Meet(%x, %x) goes one way", a, b)
			}
			for _, c := range matches {
				left, okLeft := Meet(ab, c)
				bc, okBC := Meet(b, c)
				right, okRight := Meet(a, bc)
				okLeft, okRight = okLeft && okAB, okRight && okBC
				if okLeft != okRight || okLeft && left != right {
					t.Fatalf("%x, %x, %x meet by their order", a, b, c)
				}
			}
		}
	}
}

// P2.5: Under is an order, and tells where Meet leaves the first as it is.
func TestUnderLaws(t *testing.T) {
	matches := smallMatches()
	for _, a := range matches {
		if !Under(a, a) {
			t.Fatalf("%x is not under itself", a)
		}
		for _, b := range matches {
			m, ok := Meet(a, b)
			if Under(a, b) != (ok && m == a) {
				t.Fatalf("Under(%x, %x) = %v, Meet = %x, %v", a, b, Under(a, b), m, ok)
			}
			if a != b && Under(a, b) && Under(b, a) {
				t.Fatalf("%x and %x are under each other", a, b)
			}
			for _, c := range matches {
				if Under(a, b) && Under(b, c) && !Under(a, c) {
					t.Fatalf("%x under %x under %x, but not the first under the last", a, b, c)
				}
			}
		}
	}
}

// anyMatch is most often one; a few of its bits stand, so that two often meet.
func anyMatch(r *rand.Rand) api.Match {
	var m api.Match
	for field, width := range fieldWidths {
		if r.Intn(3) == 0 {
			m.Mask[field] = r.Uint64() & r.Uint64() >> (64 - width)
			m.Value[field] = m.Mask[field] & r.Uint64() & r.Uint64() & r.Uint64()
		}
	}
	if r.Intn(16) == 0 {
		m.Mask[r.Intn(api.Fields)] ^= 1 << r.Intn(64)
	}
	return m
}

// bitsOf gives a match bit by bit: 0 not asked, 1 clear, 2 set; ok unless a bit
// stands where none may.
func bitsOf(m api.Match) (bits [api.Fields][64]int, ok bool) {
	ok = true
	for field := range bits {
		for bit := range 64 {
			value, mask := m.Value[field]>>bit&1, m.Mask[field]>>bit&1
			if value > mask || mask == 1 && bit >= fieldWidths[field] {
				ok = false
			}
			bits[field][bit] = int(mask + value)
		}
	}
	return bits, ok
}

func matchOf(bits [api.Fields][64]int) api.Match {
	var m api.Match
	for field := range bits {
		for bit, n := range bits[field] {
			if n > 0 {
				m.Mask[field] |= 1 << bit
			}
			if n > 1 {
				m.Value[field] |= 1 << bit
			}
		}
	}
	return m
}

// P2.1 to P2.3, told bit by bit.
func TestAgainstBits(t *testing.T) {
	r := rand.New(rand.NewSource(2))
	for range 10000 {
		a, b := anyMatch(r), anyMatch(r)
		if r.Intn(4) == 0 {
			b = a
			b.Mask[r.Intn(api.Fields)] = 0
		}
		bitsA, okA := bitsOf(a)
		bitsB, okB := bitsOf(b)
		if (Check(a) == api.OK) != okA || (Check(b) == api.OK) != okB {
			t.Fatalf("Check(%x) = %v, Check(%x) = %v", a, Check(a), b, Check(b))
		}
		meet, under := okA && okB, okA && okB
		hits := okA
		both := bitsA
		for field := range both {
			for bit := range 64 {
				x, y := bitsA[field][bit], bitsB[field][bit]
				both[field][bit] = max(x, y)
				meet = meet && (x == 0 || y == 0 || x == y)
				under = under && (y == 0 || x == y)
				hits = hits && (x == 0 || uint64(x-1) == b.Value[field]>>bit&1)
			}
		}
		want := all
		if meet {
			want = matchOf(both)
		}
		if m, ok := Meet(a, b); m != want || ok != meet || Touch(a, b) != meet {
			t.Fatalf("Meet(%x, %x) = %x, %v, want %x, %v", a, b, m, ok, want, meet)
		}
		if Under(a, b) != under {
			t.Fatalf("Under(%x, %x) = %v, want %v", a, b, !under, under)
		}
		if Hits(a, b.Value) != hits {
			t.Fatalf("Hits(%x, %x) = %v, want %v", a, b.Value, !hits, hits)
		}
	}
}
