package header

import (
	"fmt"
	"math/bits"
	"math/rand"
	"strings"
	"testing"

	"tollbridge/api"
)

// full has every field, each at the end of its width but Kind and Proto, which
// let the others stand.
var full = api.Header{
	api.Src: 1<<48 - 1, api.Dst: 1<<48 - 1, api.Kind: 0x800, api.Vlan: 1<<12 - 1,
	api.From: 1<<32 - 1, api.To: 1<<32 - 1, api.Proto: 6,
	api.SPort: 1<<16 - 1, api.DPort: 1<<16 - 1, api.Port: 1<<16 - 1, api.Switch: 1<<16 - 1,
}

var fieldWidths = map[int]int{
	api.Src: 48, api.Dst: 48, api.Kind: 16, api.Vlan: 12, api.From: 32, api.To: 32,
	api.Proto: 8, api.SPort: 16, api.DPort: 16, api.Port: 16, api.Switch: 16,
}

func with(h api.Header, field int, n uint64) api.Header {
	h[field] = n
	return h
}

func wantOne(t *testing.T, h api.Header) {
	t.Helper()
	if e := Check(h); e != api.OK {
		t.Errorf("Check(%x) = %v, want OK", h, e)
	}
	if Text(h) == "" {
		t.Errorf("Text(%x) is empty, but it is a header", h)
	}
}

func wantNone(t *testing.T, h api.Header) {
	t.Helper()
	if e := Check(h); e != api.ErrField {
		t.Errorf("Check(%x) = %v, want ErrField", h, e)
	}
	if s := Text(h); s != "" {
		t.Errorf("Text(%x) = %q, but it is no header", h, s)
	}
}

// P1.1: every number there is, fields or not.
func TestWidth(t *testing.T) {
	for n := -128; n <= 127; n++ {
		if got, want := Width(int8(n)), fieldWidths[n]; got != want {
			t.Errorf("Width(%d) = %d, want %d", n, got, want)
		}
	}
}

// P1.2: each field at the end of its width, and past it.
func TestCheckWidths(t *testing.T) {
	wantOne(t, full)
	for field, width := range fieldWidths {
		end := uint64(1)<<width - 1
		if field == api.Proto {
			wantOne(t, api.Header{api.Kind: 0x800, api.Proto: end})
		} else if field == api.Kind {
			wantOne(t, api.Header{api.Kind: end})
		} else {
			wantOne(t, with(full, field, end))
		}
		for bit := width; bit < 64; bit++ {
			wantNone(t, with(full, field, full[field]|1<<bit))
			wantNone(t, with(full, field, 1<<bit))
		}
		wantNone(t, with(full, field, 1<<64-1))
	}
}

// P1.2: every Kind, alone, and a few that have too many bits.
func TestCheckKind(t *testing.T) {
	for kind := uint64(0); kind < 1<<17; kind++ {
		want := api.ErrField
		if kind >= 0x600 && kind <= 0xffff && kind != 0x8100 {
			want = api.OK
		}
		if got := Check(api.Header{api.Kind: kind}); got != want {
			t.Errorf("Check of Kind %#x = %v, want %v", kind, got, want)
		}
	}
	for _, kind := range []uint64{0x10800, 1<<32 | 0x800, 1<<63 | 0x806, 1<<64 - 1} {
		wantNone(t, api.Header{api.Kind: kind})
	}
}

// P1.2: From and To stand with two Kinds, Proto with one.
func TestCheckByKind(t *testing.T) {
	kinds := []uint64{0x600, 0x7ff, 0x800, 0x801, 0x805, 0x806, 0x807, 0x80ff, 0x8101, 0x86dd, 0x88b5, 0x8000, 0xffff}
	for _, kind := range kinds {
		for _, field := range []int{api.From, api.To, api.Proto} {
			h := with(api.Header{api.Kind: kind}, field, 1)
			if kind == 0x800 || kind == 0x806 && field != api.Proto {
				wantOne(t, h)
			} else {
				wantNone(t, h)
			}
		}
		for _, field := range []int{api.Src, api.Dst, api.Vlan, api.Port, api.Switch} {
			wantOne(t, with(api.Header{api.Kind: kind}, field, 1))
		}
		for _, field := range []int{api.SPort, api.DPort} {
			wantNone(t, with(api.Header{api.Kind: kind}, field, 1))
		}
	}
}

// P1.2: SPort and DPort stand with two Protos of all.
func TestCheckByProto(t *testing.T) {
	for proto := uint64(0); proto < 1<<9; proto++ {
		for _, field := range []int{api.SPort, api.DPort} {
			h := with(api.Header{api.Kind: 0x800, api.Proto: proto}, field, 1)
			if proto == 6 || proto == 17 {
				wantOne(t, h)
			} else {
				wantNone(t, h)
			}
		}
		if h := (api.Header{api.Kind: 0x800, api.Proto: proto}); proto <= 0xff {
			wantOne(t, h)
		} else {
			wantNone(t, h)
		}
	}
	for _, kind := range []uint64{0x806, 0x88b5} {
		for _, proto := range []uint64{6, 17} {
			wantNone(t, api.Header{api.Kind: kind, api.Proto: proto})
			wantNone(t, api.Header{api.Kind: kind, api.Proto: proto, api.SPort: 1, api.DPort: 1})
		}
	}
}

// P1.2, P1.3: what the chapter names as none, all numbers too great, and no Kind at all.
func TestNone(t *testing.T) {
	var all api.Header
	for field := range all {
		all[field] = 1<<64 - 1
	}
	for _, h := range []api.Header{
		{}, all,
		{api.Kind: 0x806, api.Proto: 6},
		{api.Kind: 0x800, api.DPort: 80},
		{api.Kind: 0x8100},
		{api.Kind: 0x5ff},
		{api.Kind: 0x600, api.Vlan: 4096},
		{api.Src: 1, api.Dst: 2, api.Port: 3, api.Switch: 4},
	} {
		wantNone(t, h)
	}
}

// P1.3: the chapter's examples, and each field in its form.
func TestText(t *testing.T) {
	for _, c := range []struct {
		h    api.Header
		want string
	}{
		{api.Header{api.Src: 1, api.Kind: 0x800, api.From: 0x0a000001, api.Proto: 6, api.DPort: 80, api.Port: 3},
			"src=00:00:00:00:00:01 kind=0x0800 from=10.0.0.1 proto=6 dport=80 port=3"},
		{api.Header{api.Kind: 0x88b5}, "kind=0x88b5"},
		{api.Header{api.Kind: 0x600}, "kind=0x0600"},
		{api.Header{api.Src: 0xabcdef012345, api.Dst: 0x020000000000, api.Kind: 0xfffe},
			"src=ab:cd:ef:01:23:45 dst=02:00:00:00:00:00 kind=0xfffe"},
		{api.Header{api.Kind: 0x806, api.From: 0x01020304, api.To: 0xff00},
			"kind=0x0806 from=1.2.3.4 to=0.0.255.0"},
		{api.Header{api.Kind: 0x800, api.To: 0xc0a80164, api.Proto: 17, api.SPort: 53},
			"kind=0x0800 to=192.168.1.100 proto=17 sport=53"},
		{api.Header{api.Kind: 0x806, api.Vlan: 10, api.Switch: 16}, "kind=0x0806 vlan=10 switch=16"},
		{full, "src=ff:ff:ff:ff:ff:ff dst=ff:ff:ff:ff:ff:ff kind=0x0800 vlan=4095" +
			" from=255.255.255.255 to=255.255.255.255 proto=6 sport=65535 dport=65535 port=65535 switch=65535"},
	} {
		wantOne(t, c.h)
		if got := Text(c.h); got != c.want {
			t.Errorf("Text(%x) = %q, want %q", c.h, got, c.want)
		}
	}
}

func number(field int, n uint64) string {
	switch field {
	case api.Src, api.Dst:
		s := fmt.Sprintf("%012x", n)
		return strings.Join([]string{s[0:2], s[2:4], s[4:6], s[6:8], s[8:10], s[10:12]}, ":")
	case api.Kind:
		return fmt.Sprintf("0x%04x", n)
	case api.From, api.To:
		return fmt.Sprintf("%d.%d.%d.%d", n>>24, n>>16&255, n>>8&255, n&255)
	}
	return fmt.Sprint(n)
}

func slowText(h api.Header) string {
	names := strings.Fields("src dst kind vlan from to proto sport dport port switch")
	var words []string
	for field, n := range h {
		if n != 0 {
			words = append(words, names[field]+"="+number(field, n))
		}
	}
	return strings.Join(words, " ")
}

func slowIsOne(h api.Header) bool {
	for field, n := range h {
		if bits.Len64(n) > fieldWidths[field] {
			return false
		}
	}
	kind, proto := h[api.Kind], h[api.Proto]
	if kind < 0x600 || kind == 0x8100 {
		return false
	}
	if kind != 0x800 && kind != 0x806 && h[api.From]|h[api.To] != 0 {
		return false
	}
	if kind != 0x800 && proto != 0 {
		return false
	}
	return proto == 6 || proto == 17 || h[api.SPort]|h[api.DPort] == 0
}

// anyHeader is often one, often just beside one, and often one that was before.
func anyHeader(r *rand.Rand) api.Header {
	var h api.Header
	for field := range h {
		switch r.Intn(4) {
		case 0:
			h[field] = r.Uint64() >> (64 - fieldWidths[field])
		case 1:
			h[field] = uint64(r.Intn(3))
		}
	}
	h[api.Kind] = []uint64{0x5ff, 0x600, 0x800, 0x800, 0x800, 0x806, 0x8100, 0x88b5}[r.Intn(8)]
	h[api.Proto] = []uint64{0, 1, 6, 17}[r.Intn(4)]
	if r.Intn(16) == 0 {
		h[r.Intn(api.Fields)] = 1 << r.Intn(64)
	}
	return h
}

// P1.2, P1.3 against a plain telling of the chapter's words.
func TestAgainstWords(t *testing.T) {
	r := rand.New(rand.NewSource(1))
	for range 100000 {
		h := anyHeader(r)
		wantErr, wantText := api.ErrField, ""
		if slowIsOne(h) {
			wantErr, wantText = api.OK, slowText(h)
		}
		if Check(h) != wantErr || Text(h) != wantText {
			t.Fatalf("%x: %v %q, want %v %q", h, Check(h), Text(h), wantErr, wantText)
		}
	}
}

// P1.4: a text is one header's alone.
func TestTextTellsApart(t *testing.T) {
	r := rand.New(rand.NewSource(2))
	seen := map[string]api.Header{}
	for range 100000 {
		h := anyHeader(r)
		if Check(h) != api.OK {
			continue
		}
		s := Text(h)
		if other, ok := seen[s]; ok && other != h {
			t.Fatalf("%q is the text of %x and of %x", s, other, h)
		}
		if Text(h) != s {
			t.Fatalf("%x has two texts", h)
		}
		seen[s] = h
	}
	for field := range full {
		for bit := range fieldWidths[field] {
			h := with(full, field, full[field]^1<<bit)
			if Check(h) == api.OK && Text(h) == Text(full) {
				t.Errorf("bit %d of field %d does not show", bit, field)
			}
		}
	}
}

// P1.4: a field made 0 leaves a header one, but Kind and Proto.
func TestFieldMadeZero(t *testing.T) {
	r := rand.New(rand.NewSource(3))
	for range 20000 {
		h := anyHeader(r)
		if Check(h) != api.OK {
			continue
		}
		for field := range h {
			if field != api.Kind && field != api.Proto {
				wantOne(t, with(h, field, 0))
			}
		}
		wantNone(t, with(h, api.Kind, 0))
	}
	wantNone(t, with(full, api.Proto, 0))
}
