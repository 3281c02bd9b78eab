package diagram

import (
	"slices"
	"sync"
	"testing"

	"tollbridge/api"
	"tollbridge/nodes"
)

// R3: what Run tells is the caller's own.
func TestOwn(t *testing.T) {
	s := nodes.New()
	id := leaf(t, s, nil, sets(api.Port, 2), sets(api.Port, 3))
	h := api.Header{api.Port: 1}
	list, _ := Run(s, id, h)
	want := slices.Clone(list)
	again, _ := Run(s, id, h)
	for i := range again[:cap(again)] {
		again[:cap(again)][i] = api.Header{api.Port: 9}
	}
	if !slices.Equal(list, want) || h != (api.Header{api.Port: 1}) {
		t.Error("an answer was changed by another's", list)
	}
	wantRun(t, s, id, h, want...)
	wantCount(t, s, id, h, 3)
}

// R2: no answer hangs on who asks at the same time.
func TestAsked(t *testing.T) {
	one := nodes.New()
	star := made(t)(Star(one, chain(t, one, api.Port, 20)))
	var group sync.WaitGroup
	for range 8 {
		group.Go(func() {
			for seed := range 6 {
				s := nodes.New()
				j := joiner{t, s}
				a := chain(t, s, api.Port, 20)
				if id := j.star(a); id != star {
					t.Errorf("node %d, not %d", id, star)
				}
				m := newMaker(seed)
				j.then(m.any(t, s), j.union(m.any(t, s), a))
				wantPorts(t, one, star, 19, 19, 20, 21)
				wantError(t, "too many rounds", api.ErrTooBig)(Star(s, chain(t, s, api.Port, 64)))
			}
		})
	}
	group.Wait()
}
