package meaning

import (
	"math"
	"slices"
	"testing"

	"tollbridge/api"
)

// P19.2: Set changes its field alone, at the ends of its width too, whatever the
// header is.
func TestSet(t *testing.T) {
	for _, h := range []api.Header{{}, example(), full()} {
		for _, field := range settable() {
			for _, n := range []uint64{0, 1, last(field) - 1, last(field)} {
				if field == api.Port && n == 0 {
					wantError(t, set(field, n), h, api.ErrPolicy, "the port 0")
					continue
				}
				wantSet(t, set(field, n), h, with(h, field, n))
				wantSet(t, then(set(field, n), set(field, 1)), h, with(h, field, 1))
				wantSet(t, then(set(field, 1), filter(is(field, 1)), set(field, n)), h, with(h, field, n))
				wantSet(t, union(set(field, n), set(field, n)), h, with(h, field, n))
			}
		}
	}
}

// P19.2: headers are in order by their fields, from 0 on, as numbers.
func TestOrder(t *testing.T) {
	h := full()
	at := func(field int8, numbers ...uint64) (list []api.Header) {
		for _, n := range numbers {
			list = append(list, with(h, field, n))
		}
		return list
	}
	for _, field := range settable() {
		sets := union(set(field, 256), set(field, 2), set(field, last(field)), set(field, 255), set(field, 1), set(field, last(field)-1))
		wantSet(t, sets, h, at(field, 1, 2, 255, 256, last(field)-1, last(field))...)
		wantSet(t, union(filter(yes()), sets), h, at(field, 1, 2, 255, 256, last(field)-1, last(field), h[field])...)
		wantSet(t, union(filter(yes()), sets), with(h, field, 3), at(field, 1, 2, 3, 255, 256, last(field)-1, last(field))...)
	}
	for i, first := range settable() {
		for _, second := range settable()[i+1:] {
			var want []api.Header
			for _, n := range []uint64{7, 8} {
				for _, m := range []uint64{7, 8} {
					want = append(want, with(with(h, first, n), second, m))
				}
			}
			firsts, seconds := union(set(first, 8), set(first, 7)), union(set(second, 8), set(second, 7))
			wantSet(t, then(firsts, seconds), h, want...)
			wantSet(t, then(seconds, firsts), h, want...)
			wantSet(t, union(set(first, 1), set(second, 1)), h, with(h, first, 1), with(h, second, 1))
			wantSet(t, union(set(second, math.MaxUint16), set(first, 1)), with(with(h, second, 0), first, 0), with(with(h, second, math.MaxUint16), first, 0), with(with(h, second, 0), first, 1))
		}
	}
}

// P19.2: each header is told once, by whatever ways it is made.
func TestOnce(t *testing.T) {
	h, id := example(), filter(yes())
	a, b := set(api.Port, 2), set(api.Dst, 5)
	wantSet(t, union(id, id, then(id, id), star(id)), h, h)
	wantSet(t, union(set(api.Port, 1), id), h, h)
	wantSet(t, union(then(a, b), then(b, a)), h, with(with(h, api.Port, 2), api.Dst, 5))
	wantPorts(t, union(a, set(api.Port, 3), a, set(api.Port, 3), id), h, 1, 2, 3)
	wantPorts(t, then(union(a, set(api.Port, 3)), union(a, set(api.Port, 3))), h, 2, 3)
	wantPorts(t, then(union(a, set(api.Port, 3)), set(api.Port, 4)), h, 4)
	wantPorts(t, star(union(a, set(api.Port, 1), a, id)), h, 1, 2)
	wantPorts(t, union(star(a), star(set(api.Port, 3))), h, 1, 2, 3)
}

// P19.2: one kid alone, and none that is left.
func TestOfFew(t *testing.T) {
	h, drop := example(), filter(no())
	for _, x := range []api.Term{set(api.Port, 2), filter(yes()), star(set(api.Port, 3)), union(set(api.To, 1), set(api.To, 2))} {
		want, _ := Of(x, h)
		wantSet(t, union(x), h, want...)
		wantSet(t, then(x), h, want...)
		wantSet(t, then(union(then(x))), h, want...)
		wantSet(t, union(drop, x), h, want...)
		wantSet(t, union(x, drop), h, want...)
		wantSet(t, then(x, drop), h)
		wantSet(t, then(drop, x), h)
		wantSet(t, then(x, drop, x), h)
		wantSet(t, then(drop, star(x)), h)
		wantSet(t, star(then(x, drop)), h, h)
	}
	wantSet(t, union(drop, drop), h)
	wantSet(t, star(star(drop)), h, h)
}

// chain goes from each Port to the next, from 1 on, so many times.
func chain(steps int) api.Term {
	var kids []api.Term
	for i := range uint64(steps) {
		kids = append(kids, then(filter(is(api.Port, i+1)), set(api.Port, i+2)))
	}
	return union(kids...)
}

// P19.2: a star is closed, and the least that is, from each beginning.
func TestStar(t *testing.T) {
	ports := func(from, to uint64) (list []uint64) {
		for n := from; n <= to; n++ {
			list = append(list, n)
		}
		return list
	}
	for n := uint64(1); n <= 12; n++ {
		wantPorts(t, star(chain(10)), with(example(), api.Port, n), ports(n, max(n, 11))...)
	}
	backward := chain(10)
	slices.Reverse(backward.Kids)
	wantPorts(t, star(backward), example(), ports(1, 11)...)
	wantPorts(t, star(union(chain(10), then(filter(is(api.Port, 11)), set(api.Port, 1)))), with(example(), api.Port, 8), ports(1, 11)...)
	wantPorts(t, star(star(chain(10))), example(), ports(1, 11)...)
	wantPorts(t, then(star(chain(3)), star(chain(10))), example(), ports(1, 11)...)
	wantPorts(t, then(star(chain(3)), filter(is(api.Port, 3)), star(chain(10))), example(), ports(3, 11)...)
	wantPorts(t, star(then(chain(10), chain(10))), example(), 1, 3, 5, 7, 9, 11)
	for _, n := range []uint64{0, 12, math.MaxUint64} {
		wantPorts(t, star(chain(10)), with(example(), api.Port, n), n)
	}
}

// P19.2, R5: policy.Check's error, whatever would be reckoned, and wherever what
// is none stands.
func TestNoPolicies(t *testing.T) {
	id, drop, good := filter(yes()), filter(no()), set(api.Port, 1)
	refused := []api.Term{
		{}, yes(), is(api.Port, 1), and(yes()), or(yes()), not(yes()), set(api.Port, 0), set(api.Kind, 2048), set(api.Vlan, 0), set(api.Proto, 6), set(api.Switch, 1), set(-1, 1), set(api.Fields, 1),
		{Op: 11}, {Op: -1}, {Op: 127}, {Op: -128}, union(), then(), {Op: api.Star}, {Op: api.Filter}, term(api.Star, id, id), term(api.Filter, yes(), yes()), filter(id), filter(good), star(yes()), union(id, yes()), then(yes(), id),
		{Op: api.Set, Field: api.Port, N: 1, Kids: []api.Term{id}}, {Op: api.Star, N: 1, Kids: []api.Term{id}}, {Op: api.Then, Field: 1, Kids: []api.Term{id}},
	}
	for _, field := range settable() {
		refused = append(refused, set(field, last(field)+1), set(field, math.MaxUint64))
	}
	tooBig := then(ways(api.Dst, 65), id)
	for _, h := range []api.Header{{}, example(), full()} {
		for _, x := range refused {
			wantError(t, x, h, api.ErrPolicy, "no policy")
			wantError(t, star(x), h, api.ErrPolicy, "no policy in Star")
			wantError(t, then(drop, x), h, api.ErrPolicy, "no policy behind drop")
			wantError(t, then(drop, union(good, then(id, x))), h, api.ErrPolicy, "no policy deep behind drop")
			wantError(t, union(tooBig, x), h, api.ErrPolicy, "no policy behind what is too big")
		}
	}
}

// ways makes so many headers, which differ in a field, from 1 on.
func ways(field int8, count int) api.Term {
	var kids []api.Term
	for i := range uint64(count) {
		kids = append(kids, set(field, i+1))
	}
	return union(kids...)
}
