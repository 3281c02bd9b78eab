package flows

import (
	"math"
	"math/big"
	"math/rand"
	"slices"
	"testing"

	"tollbridge/api"
	"tollbridge/match"
)

// plain is a table of the chapter's words: rules in a list, in the order in
// which they were added, gone through one by one; counts of any size.
type plain struct {
	room int
	list []*plainRule
	gone map[uint64]*plainCounts
	told map[uint64]uint64 // how often a rule of that Cookie was told
}

type plainRule struct {
	rule   api.Rule
	counts plainCounts
}

type plainCounts struct {
	packets, bytes big.Int
}

func (c *plainCounts) add(d *plainCounts) {
	c.packets.Add(&c.packets, &d.packets)
	c.bytes.Add(&c.bytes, &d.bytes)
}

func (c *plainCounts) counts() api.Counts {
	return api.Counts{Packets: atMost(&c.packets), Bytes: atMost(&c.bytes)}
}

// bounded are the counts as they are told: what a rule loses is no more.
func (c *plainCounts) bounded() *plainCounts {
	told := c.counts()
	var b plainCounts
	b.packets.SetUint64(told.Packets)
	b.bytes.SetUint64(told.Bytes)
	return &b
}

func atMost(n *big.Int) uint64 {
	if !n.IsUint64() {
		return math.MaxUint64
	}
	return n.Uint64()
}

func (p *plain) lose(r *plainRule) {
	if p.gone[r.rule.Cookie] == nil {
		p.gone[r.rule.Cookie] = &plainCounts{}
	}
	p.gone[r.rule.Cookie].add(r.counts.bounded())
}

func (p *plain) deleteAll(which func(r api.Rule) bool) int {
	var left []*plainRule
	for _, r := range p.list {
		if which(r.rule) {
			p.lose(r)
		} else {
			left = append(left, r)
		}
	}
	n := len(p.list) - len(left)
	p.list = left
	return n
}

func (p *plain) Do(what int8, r api.Rule) (int, api.Errno) {
	if what < 0 || what > 3 {
		return 0, api.ErrArg
	}
	if match.Check(r.Match) != api.OK {
		return 0, api.ErrMatch
	}
	samePlace := func(o api.Rule) bool { return o.Rank == r.Rank && o.Match == r.Match }
	under := func(o api.Rule) bool { return match.Under(o.Match, r.Match) }
	n := 0
	switch what {
	case 0:
		if p.deleteAll(samePlace) == 0 && len(p.list) >= p.room {
			return 0, api.ErrFull
		}
		p.list = append(p.list, &plainRule{rule: r})
		n = 1
	case 1:
		for _, o := range p.list {
			if !under(o.rule) {
				continue
			}
			if o.rule.Cookie != r.Cookie {
				p.lose(o)
				o.counts = plainCounts{}
			}
			o.rule.Copies, o.rule.Cookie = r.Copies, r.Cookie
			n++
		}
	case 2:
		n = p.deleteAll(under)
	case 3:
		n = p.deleteAll(samePlace)
	}
	return n, api.OK
}

func (p *plain) Find(h api.Header, bytes int) (api.Rule, bool) {
	var best *plainRule
	for _, r := range p.list {
		if match.Hits(r.rule.Match, h) && (best == nil || r.rule.Rank > best.rule.Rank) {
			best = r
		}
	}
	if best == nil {
		return api.Rule{}, false
	}
	p.told[best.rule.Cookie]++
	one := &plainCounts{}
	one.packets.SetInt64(1)
	one.bytes.SetInt64(int64(max(bytes, 0)))
	best.counts.add(one)
	return best.rule, true
}

func (p *plain) Helds() []api.Held {
	var list []api.Held
	for _, r := range p.list {
		list = append(list, api.Held{Rule: r.rule, Counts: r.counts.counts()})
	}
	slices.SortStableFunc(list, func(a, b api.Held) int {
		switch {
		case a.Rule.Rank > b.Rule.Rank:
			return -1
		case a.Rule.Rank < b.Rule.Rank:
			return 1
		}
		return 0
	})
	return list
}

func (p *plain) Gone() []api.Held {
	var list []api.Held
	for cookie, c := range p.gone {
		list = append(list, api.Held{Rule: api.Rule{Cookie: cookie}, Counts: c.counts()})
	}
	slices.SortFunc(list, func(a, b api.Held) int {
		if a.Rule.Cookie < b.Rule.Cookie {
			return -1
		}
		return 1
	})
	return list
}

// some is a rule out of few ones, so that rules often are of one place or under
// one another; now and then it has no match.
func some(g *rand.Rand) api.Rule {
	masks := []uint64{0, 0, 1, 2, 3, 7}
	var m api.Match
	for _, field := range []int{api.Dst, api.Port} {
		m.Mask[field] = masks[g.Intn(len(masks))]
		m.Value[field] = uint64(g.Intn(8)) & m.Mask[field]
	}
	if g.Intn(40) == 0 {
		m.Value[g.Intn(api.Fields)] |= 1 << g.Intn(64)
	}
	ranks := []int{math.MinInt, -1, 0, 1, math.MaxInt}
	cookies := []uint64{0, 1, 2, 1 << 32, 1 << 63, math.MaxUint64}
	r := api.Rule{Rank: ranks[g.Intn(len(ranks))], Match: m, Cookie: cookies[g.Intn(len(cookies))]}
	for range g.Intn(3) {
		r.Copies = append(r.Copies, make([]api.Action, g.Intn(3)))
	}
	for _, list := range r.Copies {
		for i := range list {
			list[i] = api.Action{Do: int8(g.Intn(256) - 128), N: g.Uint64()}
		}
	}
	return r
}

func someHeader(g *rand.Rand) api.Header {
	return api.Header{api.Dst: uint64(g.Intn(8)), api.Port: uint64(g.Intn(8)), api.Src: g.Uint64()}
}

func someBytes(g *rand.Rand) int {
	list := []int{math.MinInt, -1, 0, 1, 60, 1514, math.MaxInt / 2, math.MaxInt}
	return list[g.Intn(len(list))]
}

// someWhat: adds are as frequent as all the others, so that tables fill.
func someWhat(g *rand.Rand) int8 {
	list := []int8{0, 0, 0, 0, 0, 0, 1, 1, 2, 3, 3, 4, -1}
	return list[g.Intn(len(list))]
}

// P11.2 to P11.7: whatever is done in whatever order, all answers are those of
// the plain table.
func TestAgainstPlain(t *testing.T) {
	for seed := range int64(80) {
		g := rand.New(rand.NewSource(seed))
		room := g.Intn(40)
		x := New(room)
		p := &plain{room: room, gone: map[uint64]*plainCounts{}, told: map[uint64]uint64{}}
		for step := range 300 {
			what, r := someWhat(g), some(g)
			n, e := x.Do(what, r)
			if wn, we := p.Do(what, r); n != wn || e != we {
				t.Fatalf("seed %d, step %d: Do(%d, %v): %d, %v, not %d, %v", seed, step, what, r, n, e, wn, we)
			}
			for range 3 {
				h, bytes := someHeader(g), someBytes(g)
				r, ok := x.Find(h, bytes)
				if wr, wok := p.Find(h, bytes); ok != wok || !sameRule(r, wr) {
					t.Fatalf("seed %d, step %d: Find(%v): %v, %t, not %v, %t", seed, step, h, r, ok, wr, wok)
				}
			}
			holds(t, x, p.Helds()...)
			isGone(t, x, p.Gone()...)
			countsAddUp(t, x, p.told)
			placesApart(t, x, room)
			if t.Failed() {
				t.Fatalf("seed %d, step %d", seed, step)
			}
		}
	}
}

// countsAddUp: P11.6.
func countsAddUp(t *testing.T, x *Table, told map[uint64]uint64) {
	t.Helper()
	sums := map[uint64]uint64{}
	for _, h := range slices.Concat(x.Helds(), x.Gone()) {
		sums[h.Rule.Cookie] += h.Counts.Packets
	}
	for cookie, n := range sums {
		if n != told[cookie] {
			t.Errorf("Cookie %d: %d packets, told %d times", cookie, n, told[cookie])
		}
	}
	for cookie, n := range told {
		if n != sums[cookie] {
			t.Errorf("Cookie %d: told %d times, %d packets", cookie, n, sums[cookie])
		}
	}
}

// placesApart: P11.7; and nothing is kept of rules that are not there.
func placesApart(t *testing.T, x *Table, room int) {
	t.Helper()
	helds := x.Helds()
	if len(helds) > room {
		t.Errorf("%d rules, room for %d", len(helds), room)
	}
	seen := map[place]bool{}
	for _, h := range helds {
		seen[place{h.Rule.Rank, h.Rule.Match}] = true
	}
	if len(seen) != len(helds) || len(x.rules) != len(helds) || len(x.places) != len(helds) {
		t.Errorf("%d rules of %d places; %d and %d are kept", len(helds), len(seen), len(x.rules), len(x.places))
	}
}

// R2: the same calls answer the same, however the maps are gone through.
func TestSameAgain(t *testing.T) {
	run := func() []api.Held {
		g := rand.New(rand.NewSource(7))
		x := New(30)
		var told []api.Held
		for range 200 {
			n, e := x.Do(someWhat(g), some(g))
			r, _ := x.Find(someHeader(g), someBytes(g))
			told = append(told, has(r, uint64(n), uint64(e)))
			told = slices.Concat(told, x.Helds(), x.Gone())
		}
		return told
	}
	first := run()
	for range 4 {
		if !slices.EqualFunc(run(), first, sameHeld) {
			t.Fatal("not the same")
		}
	}
}
