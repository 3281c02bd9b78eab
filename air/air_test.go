package air

import (
	"bytes"
	"fmt"
	"math"
	"math/rand"
	"slices"
	"strings"
	"testing"

	"tollbridge/api"
	"tollbridge/crc"
)

// with is an air that those texts were put into.
func with(texts ...string) *Air {
	a := New()
	for _, s := range texts {
		a.Put([]byte(s))
	}
	return a
}

// brought is what has come, as one text.
func brought(a *Air) string {
	var texts []string
	for _, b := range a.Came() {
		texts = append(texts, string(b))
	}
	return strings.Join(texts, " ")
}

// emptied is the row, one brought behind the other, as one text.
func emptied(t *testing.T, a *Air) string {
	t.Helper()
	if s := brought(a); s != "" {
		t.Fatalf("%q has come already", s)
	}
	for range 1 << 20 {
		if a.Do(0, 0) != api.OK {
			return brought(a)
		}
	}
	t.Fatal("the row is never empty")
	return ""
}

type did struct {
	what byte
	at   int
	e    api.Errno
}

func do(t *testing.T, a *Air, list ...did) {
	t.Helper()
	for _, d := range list {
		if e := a.Do(d.what, d.at); e != d.e {
			t.Errorf("Do(%d, %d): %v, not %v", d.what, d.at, e, d.e)
		}
	}
}

// The chapter's examples.
func TestExamples(t *testing.T) {
	a := with("ab", "cd")
	do(t, a, did{0, 3, api.OK})
	if s := brought(a); s != "cd" {
		t.Errorf("%q, not cd", s)
	}
	do(t, a, did{4, 0, api.OK}, did{0, 0, api.OK})
	if s := brought(a); s != "ab" {
		t.Errorf("%q, not ab", s)
	}

	a = with("ab")
	do(t, a, did{3, 1, api.OK}, did{3, 0, api.OK}, did{0, 0, api.OK})
	if l := a.Came(); len(l) != 1 || !bytes.Equal(l[0], []byte{0x61, 0x38}) {
		t.Errorf("% x, not 61 38", l)
	}

	do(t, New(), did{5, 0, api.ErrArg}, did{0, -1, api.ErrArg}, did{0, 0, api.ErrNone})
}

// P8.1: a new air is empty, and tells nothing.
func TestNewIsEmpty(t *testing.T) {
	a := New()
	if a == nil {
		t.Fatal("no air")
	}
	for what := range byte(5) {
		do(t, a, did{what, 0, api.ErrNone}, did{what, math.MaxInt, api.ErrNone})
	}
	if l := a.Came(); len(l) != 0 {
		t.Errorf("%q came out of nothing", l)
	}
}

// P8.1: what is put is the last one, and comes as it was, whatever its length.
func TestPutIsLast(t *testing.T) {
	if s := emptied(t, with("ab", "cd", "ef")); s != "ab cd ef" {
		t.Errorf("%q", s)
	}
	a := with("ab", "cd")
	do(t, a, did{4, 0, api.OK})
	a.Put([]byte("ef"))
	if s := emptied(t, a); s != "cd ab ef" {
		t.Errorf("behind a delay: %q", s)
	}
	for _, n := range []int{0, 1, 2, 255, 256, api.MaxMessage, api.MaxMessage + 1, 1 << 16, 1 << 20} {
		b := make([]byte, n)
		rand.New(rand.NewSource(int64(n))).Read(b)
		a := New()
		a.Put(b)
		do(t, a, did{0, 0, api.OK})
		if l := a.Came(); len(l) != 1 || !bytes.Equal(l[0], b) {
			t.Errorf("%d bytes are not told as they were put", n)
		}
	}
}

// P8.1, R6: no bytes are a datagram too, nil or empty.
func TestPutOfNothing(t *testing.T) {
	for _, b := range [][]byte{nil, {}} {
		a := New()
		a.Put(b)
		a.Put([]byte("x"))
		do(t, a, did{0, 0, api.OK})
		if l := a.Came(); len(l) != 1 || len(l[0]) != 0 {
			t.Errorf("%q", l)
		}
		do(t, a, did{0, 0, api.OK}, did{0, 0, api.ErrNone})
	}
}

// P8.2: each row of the table, at each place and at those that are it modulo n.
func TestRows(t *testing.T) {
	rows := []struct {
		what byte
		at   int
		came string
		left string
	}{
		{0, 0, "ab", "cd ef gh"},
		{0, 1, "cd", "ab ef gh"},
		{0, 2, "ef", "ab cd gh"},
		{0, 3, "gh", "ab cd ef"},
		{1, 0, "", "cd ef gh"},
		{1, 1, "", "ab ef gh"},
		{1, 2, "", "ab cd gh"},
		{1, 3, "", "ab cd ef"},
		{2, 0, "", "ab cd ef gh ab"},
		{2, 1, "", "ab cd ef gh cd"},
		{2, 2, "", "ab cd ef gh ef"},
		{2, 3, "", "ab cd ef gh gh"},
		{3, 0, "", ";b cd ef gh"},
		{3, 1, "", "ab 9d ef gh"},
		{3, 2, "", "ab cd ?f gh"},
		{3, 3, "", "ab cd ef =h"},
		{4, 0, "", "cd ef gh ab"},
		{4, 1, "", "ab ef gh cd"},
		{4, 2, "", "ab cd gh ef"},
		{4, 3, "", "ab cd ef gh"},
	}
	for _, r := range rows {
		for _, more := range []int{0, 8, 16, 8000, math.MaxInt - math.MaxInt%8 - 8} { // by 8: the same byte too
			a := with("ab", "cd", "ef", "gh")
			do(t, a, did{r.what, r.at + more, api.OK})
			if s := brought(a); s != r.came {
				t.Errorf("Do(%d, %d): %q came, not %q", r.what, r.at+more, s, r.came)
			}
			if s := emptied(t, a); s != r.left {
				t.Errorf("Do(%d, %d): %q is left, not %q", r.what, r.at+more, s, r.left)
			}
		}
	}
}

// P8.2: with n other than the number of bytes, of the row and of the byte each its own place.
func TestPlaces(t *testing.T) {
	texts := []string{"", "k", "lm", "nop", "qrstu"}
	for at := range 200 {
		a := with(texts...)
		do(t, a, did{3, at, api.OK})
		want := slices.Clone(texts)
		if i := at % 5; i > 0 {
			b := []byte(want[i])
			b[(at/5)%len(b)] ^= 0x5a
			want[i] = string(b)
		}
		if s := emptied(t, a); s != strings.Join(want, " ") {
			t.Errorf("Do(3, %d): %q, not %q", at, s, want)
		}
	}
	a := with("a", "b", "c")
	do(t, a, did{0, math.MaxInt, api.OK}) // 2^63 - 1 is 1 more than a multiple of 3
	if s := brought(a); s != "b" {
		t.Errorf("%q, not b", s)
	}
	a = with("abcd", "b", "c")
	do(t, a, did{3, math.MaxInt - 1, api.OK}, did{0, 0, api.OK}) // (2^63 - 2) / 3 is 2 more than a multiple of 4
	if s := brought(a); s != "ab9d" {
		t.Errorf("%q, not ab9d", s)
	}
}

// P8.2: a row of one, and what is left behind each thing done to it.
func TestRowOfOne(t *testing.T) {
	for what, left := range []string{"", "", "ab ab", ";b", "ab"} {
		a := with("ab")
		do(t, a, did{byte(what), 1 << 20, api.OK})
		if came := brought(a); (came == "ab") != (what == 0) {
			t.Errorf("Do(%d): %q came", what, came)
		}
		if s := emptied(t, a); s != left {
			t.Errorf("Do(%d): %q is left, not %q", what, s, left)
		}
	}
}

// P8.2: each byte by exclusive or 5a, once, whatever is done ahead and behind.
func TestChangedOnce(t *testing.T) {
	for n := range 256 {
		a := with(string([]byte{byte(n)}))
		do(t, a, did{3, 0, api.OK}, did{3, 0, api.OK}, did{4, 0, api.OK}, did{3, 7, api.OK}, did{0, 0, api.OK})
		if l := a.Came(); len(l) != 1 || !bytes.Equal(l[0], []byte{byte(n) ^ 0x5a}) {
			t.Errorf("%02x becomes % x", n, l)
		}
	}
}

// P8.2: a double is changed if the first was, and then no more; else each by itself.
func TestDoubles(t *testing.T) {
	a := with("ab")
	do(t, a, did{3, 0, api.OK}, did{2, 0, api.OK}, did{3, 3, api.OK}, did{3, 2, api.OK})
	if s := emptied(t, a); s != ";b ;b" {
		t.Errorf("doubled behind a change: %q", s)
	}
	a = with("ab")
	do(t, a, did{2, 0, api.OK}, did{3, 3, api.OK})
	if s := emptied(t, a); s != "ab a8" {
		t.Errorf("the double changed: %q", s)
	}
	a = with("ab")
	do(t, a, did{2, 0, api.OK}, did{3, 0, api.OK}, did{3, 3, api.OK}, did{2, 1, api.OK})
	if s := emptied(t, a); s != ";b a8 a8" {
		t.Errorf("both changed: %q", s)
	}
}

// P8.2: nothing to change in no bytes; it is still done.
func TestNoBytesToChange(t *testing.T) {
	a := with("", "")
	do(t, a, did{3, 0, api.OK}, did{3, math.MaxInt, api.OK}, did{2, 0, api.OK}, did{0, 0, api.OK})
	if l := a.Came(); len(l) != 1 || len(l[0]) != 0 {
		t.Errorf("%q", l)
	}
}

// P8.2, R5: errors in their order, one past each bound, and nothing is done (R4, P13).
func TestErrors(t *testing.T) {
	var none *Air
	cases := []struct {
		a    *Air
		what byte
		at   int
		e    api.Errno
	}{
		{none, 0, 0, api.ErrNil},
		{none, 5, 0, api.ErrNil},
		{none, 0, -1, api.ErrNil},
		{none, 255, math.MinInt, api.ErrNil},
		{New(), 4, 0, api.ErrNone},
		{New(), 5, 0, api.ErrArg},
		{New(), 255, 0, api.ErrArg},
		{New(), 4, -1, api.ErrArg},
		{New(), 4, math.MinInt, api.ErrArg},
		{New(), 5, -1, api.ErrArg},
		{with("ab", "cd"), 4, 0, api.OK},
		{with("ab", "cd"), 5, 0, api.ErrArg},
		{with("ab", "cd"), 6, 1, api.ErrArg},
		{with("ab", "cd"), 255, 0, api.ErrArg},
		{with("ab", "cd"), 0, -1, api.ErrArg},
		{with("ab", "cd"), 1, -2, api.ErrArg},
		{with("ab", "cd"), 2, -2, api.ErrArg},
		{with("ab", "cd"), 3, -2, api.ErrArg},
		{with("ab", "cd"), 4, math.MinInt, api.ErrArg},
	}
	for i, x := range cases {
		if e := x.a.Do(x.what, x.at); e != x.e {
			t.Errorf("%d: Do(%d, %d): %v, not %v", i, x.what, x.at, e, x.e)
		}
		if x.a == nil || x.e != api.ErrArg {
			continue
		}
		if s := emptied(t, x.a); s != "ab cd" && s != "" {
			t.Errorf("%d: %q is left", i, s)
		}
	}
	for what := 5; what < 256; what++ {
		a := with("ab", "cd")
		do(t, a, did{byte(what), 1, api.ErrArg})
		if s := emptied(t, a); s != "ab cd" {
			t.Errorf("Do(%d, 1): %q is left", what, s)
		}
	}
}

// P8.3: since it was asked last, in their order; what was refused tells nothing again.
func TestCame(t *testing.T) {
	a := with("ab", "cd", "ef", "gh")
	if s := brought(a); s != "" {
		t.Errorf("%q ahead of everything", s)
	}
	do(t, a, did{0, 3, api.OK}, did{0, 0, api.OK}, did{1, 0, api.OK})
	if s := brought(a); s != "gh ab" {
		t.Errorf("%q, not gh ab", s)
	}
	if s := brought(a); s != "" {
		t.Errorf("%q is told twice", s)
	}
	do(t, a, did{0, 0, api.OK}, did{0, 0, api.ErrNone}, did{9, 0, api.ErrArg})
	if s := brought(a); s != "ef" {
		t.Errorf("%q, not ef", s)
	}
	if l := a.Came(); len(l) != 0 {
		t.Errorf("%q is told twice", l)
	}
}

// P8.3: of a nil air.
func TestNilAir(t *testing.T) {
	var none *Air
	none.Put([]byte("ab"))
	none.Put(nil)
	do(t, none, did{0, 0, api.ErrNil}, did{7, -7, api.ErrNil})
	if l := none.Came(); len(l) != 0 {
		t.Errorf("%q", l)
	}
}

// R3: what is put is neither kept nor changed, nor is the room behind its end.
func TestHandedIn(t *testing.T) {
	whole := []byte("abcdefgh")
	b := whole[2:4:6]
	a := New()
	a.Put(b)
	a.Put(b)
	do(t, a, did{3, 0, api.OK}, did{2, 0, api.OK}, did{2, 1, api.OK})
	if string(whole) != "abcdefgh" {
		t.Errorf("changed to %q", whole)
	}
	copy(whole, "........")
	if s := emptied(t, a); s != "9d cd 9d cd" {
		t.Errorf("%q", s)
	}
	if string(whole) != "........" {
		t.Errorf("changed to %q", whole)
	}
}

// R3: answers are new memory: nothing that is written there, or behind their ends, shows.
func TestHandedOut(t *testing.T) {
	a := with("abcd", "efgh")
	do(t, a, did{2, 0, api.OK}, did{2, 0, api.OK}, did{3, 1, api.OK}, did{2, 1, api.OK})
	// The row is abcd ?fgh abcd abcd ?fgh.
	do(t, a, did{0, 0, api.OK}, did{0, 0, api.OK}, did{0, 0, api.OK})
	l := a.Came()
	if len(l) != 3 {
		t.Fatalf("%q", l)
	}
	for i, want := range []string{"abcd", "?fgh", "abcd"} {
		if string(l[i]) != want {
			t.Errorf("%d: %q, not %q: two lists share memory", i, l[i], want)
		}
		scribble(l[i])
	}
	do(t, a, did{0, 0, api.OK})
	first := a.Came()
	clear(l)
	if s := fmt.Sprintf("%s", first); s != "[abcd]" {
		t.Errorf("what was written is told: %s", s)
	}
	scribble(first[0])
	first[0] = nil
	if s := emptied(t, a); s != "?fgh" {
		t.Errorf("what was written is told: %q", s)
	}
}

// scribble writes over a list and all the room behind it.
func scribble(b []byte) {
	b = b[:cap(b)]
	for i := range b {
		b[i] = '.'
	}
}

// R2: two airs know nothing of each other.
func TestApart(t *testing.T) {
	a, b := with("ab"), with("cd")
	do(t, a, did{3, 0, api.OK}, did{2, 0, api.OK})
	if s := emptied(t, b); s != "cd" {
		t.Errorf("%q", s)
	}
	if s := emptied(t, a); s != ";b ;b" {
		t.Errorf("%q", s)
	}
}

// P8.4: what was sealed is opened if it comes as it was, and refused if it comes changed.
func TestSealed(t *testing.T) {
	for _, n := range []int{0, 1, 2, 3, 4, 5, 31, 64, 1000} {
		inside := make([]byte, n)
		rand.New(rand.NewSource(int64(n))).Read(inside)
		sealed, e := crc.Seal(inside)
		if e != api.OK {
			t.Fatal(e)
		}
		for at := range len(sealed) {
			a := New()
			a.Put(sealed)
			do(t, a, did{2, 0, api.OK}, did{3, 2*at + 1, api.OK}, did{0, 0, api.OK}, did{0, 0, api.OK})
			l := a.Came()
			if len(l) != 2 {
				t.Fatal(len(l))
			}
			if b, e := crc.Open(l[0]); e != api.OK || !bytes.Equal(b, inside) {
				t.Errorf("%d bytes, come as they were: %v", n, e)
			}
			if _, e := crc.Open(l[1]); e != api.ErrTorn {
				t.Errorf("%d bytes, the one at %d changed: %v", n, at, e)
			}
		}
	}
}

// plain is an air as the chapter's words have it, with everything written out.
type plain struct {
	row     [][]byte
	changed []bool
	came    [][]byte
}

func (p *plain) put(b []byte, changed bool) {
	p.row = append(p.row, slices.Clone(b))
	p.changed = append(p.changed, changed)
}

func (p *plain) out(i int) {
	p.row = append(slices.Clone(p.row[:i]), p.row[i+1:]...)
	p.changed = append(slices.Clone(p.changed[:i]), p.changed[i+1:]...)
}

func (p *plain) do(what byte, at int) api.Errno {
	if what > 4 || at < 0 {
		return api.ErrArg
	}
	if len(p.row) == 0 {
		return api.ErrNone
	}
	n := len(p.row)
	i := at % n
	b, changed := p.row[i], p.changed[i]
	if what == 0 {
		p.came = append(p.came, b)
	}
	if what == 0 || what == 1 || what == 4 {
		p.out(i)
	}
	if what == 2 || what == 4 {
		p.put(b, changed)
	}
	if what == 3 && !changed && len(b) > 0 {
		p.changed[i] = true
		p.row[i] = slices.Clone(b)
		p.row[i][(at/n)%len(b)] ^= 0x5a
	}
	return api.OK
}

func randomAt(r *rand.Rand) int {
	switch r.Intn(8) {
	case 0:
		return -1 - r.Intn(9)
	case 1:
		return math.MaxInt - r.Intn(50)
	case 2:
		return 0
	}
	return r.Intn(60)
}

// P8.1 to P8.3 at random, held against the plain air.
func TestAgainstWords(t *testing.T) {
	for seed := range 400 {
		r := rand.New(rand.NewSource(int64(seed)))
		a, p := New(), &plain{}
		for step := range 300 {
			switch k := r.Intn(12); {
			case k < 3:
				b := make([]byte, r.Intn(6))
				r.Read(b)
				a.Put(b)
				p.put(b, false)
			case k < 11:
				what, at := byte(r.Intn(6)), randomAt(r)
				if e, want := a.Do(what, at), p.do(what, at); e != want {
					t.Fatalf("seed %d, step %d: Do(%d, %d): %v, not %v", seed, step, what, at, e, want)
				}
			default:
				if l := a.Came(); !slices.EqualFunc(l, p.came, bytes.Equal) {
					t.Fatalf("seed %d, step %d: % x, not % x", seed, step, l, p.came)
				}
				p.came = nil
			}
		}
	}
}

// apart is in how many bytes two of one length are unlike.
func apart(a, b []byte) int {
	n := 0
	for i := range a {
		if a[i] != b[i] {
			n++
		}
	}
	return n
}

// P8.4, P8.5: everything that comes is one of those put in, but for one byte; and if nothing is doubled, each comes once at most.
func TestNothingFromNowhere(t *testing.T) {
	for seed := range 200 {
		r := rand.New(rand.NewSource(int64(seed)))
		doubling := seed%2 == 0
		a := New()
		var put [][]byte
		comes := map[int]int{}
		for range 300 {
			if r.Intn(3) == 0 {
				b := bytes.Repeat([]byte{0, byte(len(put)), byte(len(put) >> 8)}, 3) // so that each is known by its bytes, one changed
				b = append(b, make([]byte, r.Intn(5))...)
				put = append(put, b)
				a.Put(b)
			}
			if what := byte(r.Intn(5)); what != 2 || doubling {
				a.Do(what, r.Intn(1000))
			}
			for _, b := range a.Came() {
				i := slices.IndexFunc(put, func(c []byte) bool { return len(c) == len(b) && apart(b, c) <= 1 })
				if i < 0 {
					t.Fatalf("seed %d: % x was not put in", seed, b)
				}
				comes[i]++
				if comes[i] > 1 && !doubling {
					t.Fatalf("seed %d: % x comes twice", seed, b)
				}
			}
		}
		if len(comes) == 0 {
			t.Errorf("seed %d: nothing came", seed)
		}
	}
}

// A long row that goes from its front, its end and its midst, in order.
func TestLongRow(t *testing.T) {
	const n = 1 << 17
	a := New()
	for i := range n {
		a.Put([]byte{byte(i), byte(i >> 8), byte(i >> 16)})
	}
	for i := range n - 1 {
		do(t, a, did{byte(4 * (i % 2)), 0, api.OK}) // brought, delayed, by turns
	}
	l := a.Came()
	if len(l) != n/2 {
		t.Fatal(len(l))
	}
	for i, b := range l {
		if k := 2 * i; !bytes.Equal(b, []byte{byte(k), byte(k >> 8), byte(k >> 16)}) {
			t.Fatalf("% x at %d", b, i)
		}
	}
	do(t, a, did{0, 0, api.OK}, did{0, n/2 - 2, api.OK})
	if l := a.Came(); len(l) != 2 || !bytes.Equal(l[0], []byte{0xff, 0xff, 1}) || !bytes.Equal(l[1], []byte{0xfd, 0xff, 1}) {
		t.Errorf("% x", l)
	}
}
