package cache

import (
	"math"
	"math/rand"
	"testing"

	"tollbridge/api"
)

// Some headers, which differ in one field or in two.
var (
	a = api.Header{api.Dst: 1}
	b = api.Header{api.Dst: 2}
	c = api.Header{api.Dst: 3}
	d = api.Header{api.Src: 1}
	e = api.Header{api.Switch: 1}
)

// nth is one of many headers that are all unlike.
func nth(n int) api.Header {
	return api.Header{api.To: uint64(n)}
}

func get(t *testing.T, x *Cache, h api.Header, want int) {
	t.Helper()
	if id, there := x.Get(h); id != want || !there {
		t.Errorf("Get(%v): %d, %v, not %d", h, id, there, want)
	}
}

func none(t *testing.T, x *Cache, h api.Header) {
	t.Helper()
	if id, there := x.Get(h); id != 0 || there {
		t.Errorf("Get(%v): %d, %v, not none", h, id, there)
	}
}

func held(t *testing.T, x *Cache, want int) {
	t.Helper()
	if n := x.Held(); n != want {
		t.Errorf("Held: %d, not %d", n, want)
	}
}

// stand tells which headers stand at the places, the first place first: asking
// by Get would set marks and make old ones go.
func stand(t *testing.T, x *Cache, want ...api.Header) {
	t.Helper()
	if len(x.places) != len(want) {
		t.Fatalf("%d places, not %d", len(x.places), len(want))
	}
	for place, h := range want {
		switch e := x.places[place]; {
		case e == nil && h != api.Header{}:
			t.Errorf("nothing at place %d", place)
		case e != nil && e.header != h:
			t.Errorf("%v at place %d, not %v", e.header, place, h)
		}
	}
}

// full is a cache all of whose places are taken, by headers whose ids are 1 and
// so on.
func full(list ...api.Header) *Cache {
	x := New(len(list))
	for i, h := range list {
		x.Put(h, i+1)
	}
	return x
}

func TestExamples(t *testing.T) {
	x := New(2)
	x.Put(a, 1)
	x.Put(b, 2)
	get(t, x, a, 1)
	x.Put(c, 3)
	get(t, x, a, 1)
	none(t, x, b)
	get(t, x, c, 3)

	x.Turn()
	none(t, x, a)
	held(t, x, 0)
	x.Put(d, 4)
	get(t, x, d, 4)
	held(t, x, 1)

	x = New(0)
	x.Put(a, 1)
	none(t, x, a)
}

// P10.1: size is brought into 0 to MaxCache, and nothing is in it.
func TestNewSize(t *testing.T) {
	cases := []struct{ size, want int }{
		{math.MinInt, 0}, {-1025, 0}, {-1, 0}, {0, 0}, {1, 1}, {2, 2},
		{1023, 1023}, {1024, 1024}, {1025, 1024}, {math.MaxInt, 1024},
	}
	for _, k := range cases {
		x := New(k.size)
		if x == nil {
			t.Fatal(k.size, "no cache")
		}
		held(t, x, 0)
		none(t, x, nth(1))
		none(t, x, api.Header{})
		for n := range 1200 {
			x.Put(nth(n), n)
		}
		if x.Held() != k.want {
			t.Errorf("New(%d): %d places, not %d", k.size, x.Held(), k.want)
		}
	}
}

// P10.1: caches have nothing in common.
func TestNewApart(t *testing.T) {
	x, y := New(2), New(2)
	x.Put(a, 1)
	none(t, y, a)
	y.Put(a, 2)
	y.Turn()
	get(t, x, a, 1)
	none(t, y, a)
}

// P10.1, R1: a nil cache.
func TestNil(t *testing.T) {
	var x *Cache
	none(t, x, a)
	x.Put(a, 1)
	x.Turn()
	none(t, x, a)
	held(t, x, 0)
}

// R1: a cache that did not come out of New does not panic either.
func TestZero(t *testing.T) {
	x := &Cache{}
	none(t, x, a)
	x.Put(a, 1)
	x.Turn()
	none(t, x, a)
	held(t, x, 0)
}

// P10.3: without places nothing is kept, whatever size said so.
func TestNoPlaces(t *testing.T) {
	for _, size := range []int{0, -1, math.MinInt} {
		x := New(size)
		for n := range 3 {
			x.Put(nth(n), n)
			x.Put(nth(n), n+1)
			none(t, x, nth(n))
			held(t, x, 0)
			x.Turn()
		}
	}
}

// P10.2: an entry has h only if all fields are alike, and any numbers make a
// header here: this chapter refuses none.
func TestGetWholeHeader(t *testing.T) {
	var most api.Header
	for field := range most {
		most[field] = math.MaxUint64
	}
	x := New(2)
	x.Put(api.Header{}, 50)
	x.Put(most, 51)
	for field := range most {
		var h api.Header
		h[field] = 1 << 63
		none(t, x, h)
		h = most
		h[field]--
		none(t, x, h)
	}
	get(t, x, api.Header{}, 50)
	get(t, x, most, 51)
}

// P10.2, P10.3: any id is told as it was put, 0 and negative ones too.
func TestIds(t *testing.T) {
	x := New(1)
	for _, id := range []int{0, 1, -1, math.MaxInt, math.MinInt} {
		x.Put(a, id)
		get(t, x, a, id)
		get(t, x, a, id)
		x.Put(b, id)
		get(t, x, b, id)
	}
}

// P10.2: an old entry goes when it is asked for: its place is free again, which
// the next new entry takes, ahead of any that the hand would come to.
func TestGetOldGoes(t *testing.T) {
	x := full(a, b, c)
	x.Turn()
	none(t, x, b)
	stand(t, x, a, api.Header{}, c)
	x.Put(d, 4)
	stand(t, x, a, d, c)
	// The hand did not move.
	x.Put(e, 5)
	stand(t, x, e, d, c)
	get(t, x, d, 4)
	get(t, x, e, 5)
	held(t, x, 2)
}

// P10.2: an old one goes even if its mark is set.
func TestGetOldMarkedGoes(t *testing.T) {
	x := full(a, b)
	get(t, x, a, 1)
	x.Turn()
	none(t, x, a)
	stand(t, x, api.Header{}, b)
}

// P10.2: an entry that goes takes its mark along.
func TestMarkGoes(t *testing.T) {
	x := full(a, b)
	get(t, x, a, 1)
	x.Turn()
	none(t, x, a)
	x.Put(a, 3)
	x.Put(b, 4)
	x.Put(c, 5)
	stand(t, x, c, b)
}

// P10.2: asking for what is not there changes nothing, nor does asking twice.
func TestGetNone(t *testing.T) {
	x := full(a, b)
	none(t, x, c)
	stand(t, x, a, b)
	get(t, x, a, 1)
	get(t, x, a, 1)
	x.Put(c, 3)
	stand(t, x, a, c)
	none(t, x, b)
	// One round of the hand takes the mark, however often it was set.
	x.Put(d, 4)
	stand(t, x, d, c)
}

// P10.3: an entry that is there is changed where it stands; no other one goes.
func TestPutAgain(t *testing.T) {
	x := full(a, b)
	x.Put(a, 5)
	stand(t, x, a, b)
	held(t, x, 2)
	get(t, x, a, 5)
	get(t, x, b, 2)
}

// P10.3: Put sets no mark, neither on a new entry nor on one that is there.
func TestPutSetsNoMark(t *testing.T) {
	x := full(a, b)
	x.Put(a, 5)
	x.Put(c, 3)
	stand(t, x, c, b)
	x.Put(d, 4)
	stand(t, x, c, d)
	x.Put(e, 5)
	stand(t, x, e, d)
}

// P10.3: Put takes no mark from an entry that is there.
func TestPutTakesNoMark(t *testing.T) {
	x := full(a, b)
	get(t, x, a, 1)
	x.Put(a, 5)
	x.Put(c, 3)
	stand(t, x, a, c)
}

// P10.3: an old entry that is put again is not old any more, and keeps its
// mark, which only the hand takes.
func TestPutOldAgain(t *testing.T) {
	x := full(a, b)
	get(t, x, a, 1)
	x.Turn()
	held(t, x, 0)
	x.Put(a, 5)
	held(t, x, 1)
	stand(t, x, a, b)
	x.Put(b, 6)
	held(t, x, 2)
	x.Put(c, 7)
	stand(t, x, a, c)
	get(t, x, a, 5)
}

// P10.3: a new entry stands in the first place without an entry.
func TestPutFirstPlace(t *testing.T) {
	x := New(3)
	x.Put(a, 1)
	stand(t, x, a, api.Header{}, api.Header{})
	x.Put(b, 2)
	x.Put(c, 3)
	stand(t, x, a, b, c)
	x.Turn()
	none(t, x, c)
	none(t, x, a)
	x.Put(d, 4)
	stand(t, x, d, b, api.Header{})
	x.Put(e, 5)
	stand(t, x, d, b, e)
}

// P10.3: a free place is taken though the hand stands elsewhere.
func TestPutFreeNotHand(t *testing.T) {
	x := full(a, b, c)
	x.Put(d, 4) // at 0; the hand goes on to 1
	stand(t, x, d, b, c)
	x.Turn()
	none(t, x, d)
	x.Put(e, 5)
	stand(t, x, e, b, c)
	x.Put(a, 6)
	stand(t, x, e, a, c)
}

// P10.3: the hand begins at the place 0, goes on by one behind each new entry,
// and round.
func TestHandGoesRound(t *testing.T) {
	x := full(a, b, c)
	x.Put(d, 4)
	stand(t, x, d, b, c)
	x.Put(e, 5)
	stand(t, x, d, e, c)
	x.Put(a, 6)
	stand(t, x, d, e, a)
	x.Put(b, 7)
	stand(t, x, b, e, a)
}

// P10.3: with all marked the hand takes all marks, and stops where it began.
func TestHandAllMarked(t *testing.T) {
	x := full(a, b, c)
	x.Put(d, 4) // the hand is at 1 now
	for i, h := range []api.Header{d, b, c} {
		get(t, x, h, []int{4, 2, 3}[i])
	}
	x.Put(e, 5)
	stand(t, x, d, e, c)
	// The others' marks are gone: they go one by one.
	x.Put(a, 6)
	stand(t, x, d, e, a)
	x.Put(b, 7)
	stand(t, x, b, e, a)
}

// P10.3: the hand takes marks only up to where it stops.
func TestHandStops(t *testing.T) {
	x := full(a, b, c)
	get(t, x, a, 1)
	get(t, x, c, 3)
	x.Put(d, 4) // a loses its mark; b goes; c keeps its own
	stand(t, x, a, d, c)
	x.Put(e, 5) // c loses its mark; a goes
	stand(t, x, e, d, c)
	x.Put(b, 6)
	stand(t, x, e, b, c)
	x.Put(a, 7)
	stand(t, x, e, b, a)
}

// P10.3: an old entry in the hand's way goes, marked or not, ahead of those
// that are not old.
func TestHandOld(t *testing.T) {
	x := full(a, b, c)
	get(t, x, b, 2)
	x.Turn()
	x.Put(a, 1)
	get(t, x, a, 1)
	x.Put(d, 4) // a loses its mark; b is old, its mark no help
	stand(t, x, a, d, c)
	x.Put(e, 5) // c is old
	stand(t, x, a, d, e)
	x.Put(b, 6) // a's mark is gone
	stand(t, x, b, d, e)
	held(t, x, 3)
}

// P10.3: the hand does not look for old ones beyond the first that may go.
func TestHandOldBehind(t *testing.T) {
	x := full(a, b)
	x.Turn()
	x.Put(a, 3)
	x.Put(c, 4)
	stand(t, x, c, b)
	held(t, x, 1)
}

// P10.3: one place alone, marked or not, gives way.
func TestHandOnePlace(t *testing.T) {
	x := New(1)
	for n := range 5 {
		x.Put(nth(n), n)
		get(t, x, nth(n), n)
		stand(t, x, nth(n))
		x.Put(nth(n+10), n)
		stand(t, x, nth(n+10))
		none(t, x, nth(n))
	}
}

// P10.3: an entry that gave way may come again, as a new one.
func TestGoneComesAgain(t *testing.T) {
	x := full(a, b)
	get(t, x, a, 1)
	get(t, x, b, 2)
	x.Put(c, 3)
	none(t, x, a)
	x.Put(a, 4)
	get(t, x, a, 4)
	none(t, x, b)
	held(t, x, 2)
}

// P10.4: Held counts those that are not old, whether or not old ones stand
// about; asking for them changes it no more.
func TestHeld(t *testing.T) {
	x := New(4)
	for n := range 4 {
		held(t, x, n)
		x.Put(nth(n), n)
	}
	held(t, x, 4)
	x.Put(nth(9), 9)
	held(t, x, 4)
	x.Turn()
	held(t, x, 0)
	held(t, x, 0)
	none(t, x, nth(1))
	held(t, x, 0)
	x.Put(nth(2), 5)
	held(t, x, 1)
	x.Put(nth(20), 6)
	held(t, x, 2)
	none(t, x, nth(3))
	held(t, x, 2)
	x.Turn()
	x.Turn()
	held(t, x, 0)
	x.Put(nth(20), 7)
	held(t, x, 1)
}

// P10.4, P10.6: behind a Turn nothing is there, whatever was put ahead, and
// none of it comes back with later ones.
func TestTurn(t *testing.T) {
	x := New(8)
	for round := range 70 {
		x.Put(nth(round), round)
		x.Put(nth(round+1), round)
		get(t, x, nth(round), round)
		x.Turn()
		for n := range 80 {
			if n%3 == round%3 {
				none(t, x, nth(n))
			}
		}
		held(t, x, 0)
	}
}

// P10.6: an entry that is asked for between any two rounds of the hand stays;
// one that is not goes.
func TestAskedForStays(t *testing.T) {
	for _, size := range []int{2, 3, 7, api.MaxCache} {
		x := New(size)
		x.Put(a, 1)
		x.Put(b, 2)
		get(t, x, a, 1)
		next := 0
		for range 6 {
			// While one stays, the hand meets the others once a round.
			for range size - 1 {
				next++
				x.Put(nth(next), next)
			}
			get(t, x, a, 1)
		}
		none(t, x, b)
		held(t, x, size)
	}
}

// plain is a cache as the chapter tells it, found through place by place.
type plain struct {
	places     []place
	generation int
	hand       int
}

type place struct {
	taken      bool
	header     api.Header
	id         int
	generation int
	mark       bool
}

func (p *plain) find(fits func(place) bool) int {
	for i := range p.places {
		if fits(p.places[i]) {
			return i
		}
	}
	return -1
}

func (p *plain) has(h api.Header) int {
	return p.find(func(q place) bool { return q.taken && q.header == h })
}

func (p *plain) get(h api.Header) (int, bool) {
	i := p.has(h)
	if i < 0 {
		return 0, false
	}
	if p.places[i].generation != p.generation {
		p.places[i] = place{}
		return 0, false
	}
	p.places[i].mark = true
	return p.places[i].id, true
}

func (p *plain) put(h api.Header, id int) {
	if len(p.places) == 0 {
		return
	}
	if i := p.has(h); i >= 0 {
		p.places[i].id = id
		p.places[i].generation = p.generation
		return
	}
	i := p.find(func(q place) bool { return !q.taken })
	if i < 0 {
		for p.places[p.hand].mark && p.places[p.hand].generation == p.generation {
			p.places[p.hand].mark = false
			p.goOn()
		}
		i = p.hand
		p.goOn()
	}
	p.places[i] = place{taken: true, header: h, id: id, generation: p.generation}
}

func (p *plain) goOn() {
	p.hand++
	if p.hand == len(p.places) {
		p.hand = 0
	}
}

func (p *plain) held() int {
	n := 0
	for _, q := range p.places {
		if q.taken && q.generation == p.generation {
			n++
		}
	}
	return n
}

// alike holds a cache against the plain one, and what it finds by its map
// against its places.
func alike(t *testing.T, x *Cache, p *plain) {
	t.Helper()
	if x.hand != p.hand || x.generation != p.generation {
		t.Fatalf("hand %d, generation %d, not %d, %d", x.hand, x.generation, p.hand, p.generation)
	}
	taken := 0
	for i, q := range p.places {
		e := x.places[i]
		if (e != nil) != q.taken {
			t.Fatalf("place %d: taken %v, not %v", i, e != nil, q.taken)
		}
		if e == nil {
			continue
		}
		taken++
		if got := (place{true, e.header, e.id, e.generation, e.marked}); got != q {
			t.Fatalf("place %d: %v, not %v", i, got, q)
		}
		if at, there := x.at[e.header]; at != i || !there {
			t.Fatalf("place %d is found at %d, %v", i, at, there)
		}
	}
	if len(x.at) != taken {
		t.Fatalf("%d headers are found, but %d stand there", len(x.at), taken)
	}
}

// P10.2 to P10.6: any row of calls, held against the plain one; what is told is
// what was last put behind the last Turn.
func TestRandom(t *testing.T) {
	for seed := range 300 {
		r := rand.New(rand.NewSource(int64(seed)))
		size := r.Intn(9)
		many := 1 + r.Intn(14)
		seldom := 5 + r.Intn(60)
		x, p := New(size), &plain{places: make([]place, size)}
		last := map[api.Header]int{}
		for range 600 {
			h := nth(r.Intn(many))
			switch k := r.Intn(seldom); {
			case k == 0:
				x.Turn()
				p.generation++
				last = map[api.Header]int{}
			case k%2 == 0:
				id := r.Intn(100) - 50
				x.Put(h, id)
				p.put(h, id)
				last[h] = id
			default:
				id, there := x.Get(h)
				if want, is := p.get(h); id != want || there != is {
					t.Fatalf("seed %d: Get: %d, %v, not %d, %v", seed, id, there, want, is)
				}
				if was, put := last[h]; there && (!put || was != id) {
					t.Fatalf("seed %d: Get: %d, but %d was put last", seed, id, was)
				}
			}
			alike(t, x, p)
			if n := x.Held(); n != p.held() || n > size {
				t.Fatalf("seed %d: Held: %d, not %d", seed, n, p.held())
			}
		}
	}
}

// P10.3: the greatest cache, and one that was asked to be greater.
func TestMost(t *testing.T) {
	for _, size := range []int{api.MaxCache, api.MaxCache + 1} {
		x := New(size)
		for n := range api.MaxCache {
			x.Put(nth(n), n)
		}
		held(t, x, api.MaxCache)
		for n := range api.MaxCache {
			get(t, x, nth(n), n)
		}
		x.Put(nth(5000), 5000)
		held(t, x, api.MaxCache)
		none(t, x, nth(0))
		get(t, x, nth(1), 1)
		get(t, x, nth(api.MaxCache-1), api.MaxCache-1)
		get(t, x, nth(5000), 5000)
		x.Turn()
		held(t, x, 0)
		x.Put(nth(7000), 7)
		held(t, x, 1)
	}
}

// R2: the same calls on another cache tell the same.
func TestSameAgain(t *testing.T) {
	run := func() []int {
		x := New(5)
		r := rand.New(rand.NewSource(1))
		var list []int
		for n := range 2000 {
			x.Put(nth(r.Intn(9)), n)
			id, _ := x.Get(nth(r.Intn(9)))
			list = append(list, id, x.Held())
			if n%100 == 99 {
				x.Turn()
			}
		}
		return list
	}
	one, two := run(), run()
	for i := range one {
		if one[i] != two[i] {
			t.Fatal(i, one[i], two[i])
		}
	}
}
