package meaning

import (
	"maps"
	"math/rand"
	"slices"
	"testing"

	"tollbridge/api"
)

// plain tells the chapter's words as they stand: each set by itself, asked for
// its size where the chapter says so, and the work counted up.
type plain struct {
	work   int
	tooBig bool
}

type some map[api.Header]bool

func (p *plain) holds(t api.Term, h api.Header) bool {
	switch t.Op {
	case api.Yes:
		return true
	case api.Is:
		return h[t.Field] == t.N
	case api.Not:
		return !p.holds(t.Kids[0], h)
	}
	count := 0
	for _, kid := range t.Kids {
		if p.holds(kid, h) {
			count++
		}
	}
	return t.Op == api.And && count == len(t.Kids) || t.Op == api.Or && count > 0
}

func (p *plain) size(t api.Term) int {
	n := 1
	for _, kid := range t.Kids {
		n += p.size(kid)
	}
	return n
}

func (p *plain) count(work int) {
	p.work += work
	p.tooBig = p.tooBig || p.work > 65536
}

func (p *plain) measure(made some) some {
	p.tooBig = p.tooBig || len(made) > 64
	return made
}

func (p *plain) of(t api.Term, h api.Header) some {
	made := some{}
	if p.tooBig {
		return made
	}
	switch t.Op {
	case api.Filter:
		p.count(p.size(t))
		if p.holds(t.Kids[0], h) {
			made[h] = true
		}
	case api.Set:
		p.count(1)
		made[with(h, t.Field, t.N)] = true
	case api.Union:
		for _, kid := range t.Kids {
			maps.Copy(made, p.of(kid, h))
		}
		p.measure(made)
	case api.Then:
		made[h] = true
		for _, kid := range t.Kids {
			made = p.measure(p.ofAll(kid, made))
		}
	case api.Star:
		made[h] = true
		fresh := some{h: true}
		for rounds := 1; len(fresh) > 0; rounds++ {
			p.tooBig = p.tooBig || rounds > 64
			fresh = p.ofAll(t.Kids[0], fresh)
			maps.DeleteFunc(fresh, func(x api.Header, _ bool) bool { return made[x] })
			maps.Copy(made, fresh)
			p.measure(made)
		}
	}
	return made
}

func (p *plain) ofAll(t api.Term, ahead some) some {
	made := some{}
	for h := range ahead {
		maps.Copy(made, p.of(t, h))
	}
	return made
}

// isLess compares two headers number by number.
func isLess(a, b api.Header) bool {
	for field := range a {
		if a[field] != b[field] {
			return a[field] < b[field]
		}
	}
	return false
}

// wantPlain holds Of against the plain telling, and answers what that counted.
func wantPlain(t *testing.T, pol api.Term, h api.Header, what string) plain {
	t.Helper()
	var p plain
	want := p.of(pol, h)
	list, e := Of(pol, h)
	if p.tooBig {
		if e != api.ErrTooBig || len(list) != 0 {
			t.Errorf("%s: %d headers, %v, want none, %v", what, len(list), e, api.ErrTooBig)
		}
		return p
	}
	if e != api.OK || len(list) != len(want) {
		t.Errorf("%s: %v of %v: %d headers, %v, want %d", what, pol, h, len(list), e, len(want))
	}
	for i, x := range list {
		if !want[x] || i > 0 && !isLess(list[i-1], x) {
			t.Errorf("%s: %v of %v: %v, want %v", what, pol, h, list, want)
		}
	}
	return p
}

// P19.1: predicates made at random hold as the chapter says.
func TestHoldsAtRandom(t *testing.T) {
	var p plain
	held := 0
	for seed := range 2 {
		m := maker{rand.New(rand.NewSource(int64(191 + seed))), seed == 0}
		for range 20000 {
			pred, h := m.pred(m.Intn(6)), m.header()
			want := p.holds(pred, h)
			wantHolds(t, pred, h, want)
			wantHolds(t, not(pred), h, !want)
			if want {
				held++
			}
		}
	}
	if held < 10000 || held > 30000 {
		t.Errorf("%d of 40000 predicates hold: too few to tell", held)
	}
}

// P19.2: policies made at random make what the chapter says, or are too big; what
// is not counts the work that it says.
func TestOfAtRandom(t *testing.T) {
	bySize := [5]int{}
	for seed := range 2 {
		m := maker{rand.New(rand.NewSource(int64(192 + seed))), seed == 0}
		for i := range 15000 {
			pol, h := m.pol(m.Intn(6)), m.header()
			p := wantPlain(t, pol, h, describe(i))
			list, _ := Of(pol, h)
			bySize[min(len(list), 4)]++
			if i%50 == 0 && !p.tooBig && p.work < api.MaxWork/2 && p.size(pol) < 1000 {
				wantWork(t, pol, h, p.work, describe(i))
			}
		}
	}
	for size, count := range bySize {
		if count < 300 {
			t.Errorf("%d sets of %d headers: too few to tell", count, size)
		}
	}
}

// P19.2: the same near the bounds.
func TestOfManyAtRandom(t *testing.T) {
	fits, bySet, byWork, great := 0, 0, 0, 0
	m := maker{rand.New(rand.NewSource(194)), true}
	for i := range 500 {
		pol, h := m.steps(), m.header()
		p := wantPlain(t, pol, h, describe(i))
		list, _ := Of(pol, h)
		switch {
		case p.work > api.MaxWork:
			byWork++
		case p.tooBig:
			bySet++
		case len(list) > 30:
			great++
		default:
			fits++
		}
		if !p.tooBig && i%10 == 0 && p.work < api.MaxWork/2 && p.size(pol) < 1000 {
			wantWork(t, pol, h, p.work, describe(i))
		}
	}
	if fits < 100 || bySet < 40 || byWork < 10 || great < 15 {
		t.Errorf("%d fit, %d are great, %d have too many headers, %d too much work: too few to tell", fits, great, bySet, byWork)
	}
}

// P19.4: what is told differs from h in fields that some Set names alone, and has
// one of their numbers there.
func TestNamedAlone(t *testing.T) {
	for seed := range 2 {
		m := maker{rand.New(rand.NewSource(int64(196 + seed))), seed == 0}
		for range 10000 {
			pol, h := m.pol(m.Intn(6)), m.header()
			named := setsOf(pol)
			list, _ := Of(pol, h)
			for _, x := range list {
				for field := range x {
					if x[field] != h[field] && !slices.Contains(named[field], x[field]) {
						t.Errorf("%v of %v: %v, whose field %d no Set names so", pol, h, x, field)
					}
				}
			}
		}
	}
}

// setsOf are the numbers that Sets name, by their fields.
func setsOf(t api.Term) (named [api.Fields][]uint64) {
	if t.Op == api.Set {
		named[t.Field] = append(named[t.Field], t.N)
	}
	for _, kid := range t.Kids {
		for field, numbers := range setsOf(kid) {
			named[field] = append(named[field], numbers...)
		}
	}
	return named
}
