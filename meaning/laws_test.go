package meaning

import (
	"math/rand"
	"slices"
	"strconv"
	"testing"

	"tollbridge/api"
	"tollbridge/policy"
)

// laws are P19.3's: two policies each that do alike.
func laws(p, q, r, x, y api.Term) map[string][2]api.Term {
	id, drop := filter(yes()), filter(no())
	return map[string][2]api.Term{
		"Union is associative":            {union(union(p, q), r), union(p, union(q, r))},
		"Union of three":                  {union(p, q, r), union(p, union(q, r))},
		"Then is associative":             {then(then(p, q), r), then(p, then(q, r))},
		"Then of three":                   {then(p, q, r), then(p, then(q, r))},
		"Union is commutative":            {union(p, q), union(q, p)},
		"Union of a policy with itself":   {union(p, p), p},
		"Then goes over Unions ahead":     {then(union(p, q), r), union(then(p, r), then(q, r))},
		"Then goes over Unions behind":    {then(p, union(q, r)), union(then(p, q), then(p, r))},
		"Yes ahead":                       {then(id, p), p},
		"Yes behind":                      {then(p, id), p},
		"No ahead":                        {union(drop, p), p},
		"No behind":                       {union(p, drop), p},
		"Then of No ahead":                {then(drop, p), drop},
		"Then of No behind":               {then(p, drop), drop},
		"Star, once":                      {star(p), union(id, then(p, star(p)))},
		"Star, once, behind":              {star(p), union(id, then(star(p), p))},
		"Star of Star":                    {star(star(p)), star(p)},
		"Filter of And":                   {filter(and(x, y)), then(filter(x), filter(y))},
		"Filter of Or":                    {filter(or(x, y)), union(filter(x), filter(y))},
		"Filter of Not, none of both":     {then(filter(x), filter(not(x))), drop},
		"Filter of Not, one of both":      {union(filter(x), filter(not(x))), id},
		"Filters go about":                {then(filter(x), filter(y)), then(filter(y), filter(x))},
		"Star of a Filter":                {star(filter(x)), id},
		"Star of a Union with Filter Yes": {star(union(id, p)), star(p)},
	}
}

// wantAlike asks for the same of both, where neither is too big, and answers
// whether it could.
func wantAlike(t *testing.T, both [2]api.Term, h api.Header, what string) bool {
	t.Helper()
	one, e := Of(both[0], h)
	other, f := Of(both[1], h)
	if e != api.OK || f != api.OK {
		if e != api.OK && e != api.ErrTooBig || f != api.OK && f != api.ErrTooBig {
			t.Errorf("%s: %v, %v", what, e, f)
		}
		return false
	}
	if !slices.Equal(one, other) {
		t.Errorf("%s: of %v: %v makes %v, %v makes %v", what, h, both[0], one, both[1], other)
	}
	return true
}

// P19.3: the laws hold of policies made at random.
func TestLaws(t *testing.T) {
	told := map[string]int{}
	for seed := range 2 {
		m := maker{rand.New(rand.NewSource(int64(1930 + seed))), seed == 0}
		for range 1500 {
			p, q, r := m.pol(m.Intn(4)), m.pol(m.Intn(4)), m.pol(m.Intn(4))
			for what, both := range laws(p, q, r, m.pred(m.Intn(4)), m.pred(m.Intn(4))) {
				for range 3 {
					if wantAlike(t, both, m.header(), what) {
						told[what]++
					}
				}
			}
		}
	}
	for what := range laws(yes(), yes(), yes(), yes(), yes()) {
		if told[what] < 5000 {
			t.Errorf("%s: %d times: too few to tell", what, told[what])
		}
	}
}

// P18.3: policy.Plain means the same, and its queries hold of the same headers.
func TestPlainMeansTheSame(t *testing.T) {
	changed, greater := 0, 0
	for seed := range 2 {
		m := maker{rand.New(rand.NewSource(int64(1830 + seed))), seed == 0}
		for i := range 8000 {
			p := api.Policy{Main: m.pol(m.Intn(6))}
			if i%20 == 0 {
				p.Main = m.steps()
			}
			for i := range m.Intn(3) {
				p.Queries = append(p.Queries, api.Query{Name: "q" + strconv.Itoa(i), Pred: m.pred(m.Intn(6))})
			}
			made, e := policy.Plain(p)
			if e != api.OK {
				t.Fatal(p, e)
			}
			for range 3 {
				h := m.header()
				if !wantAlike(t, [2]api.Term{p.Main, made.Main}, h, "Plain") {
					greater++
				}
				for i, q := range p.Queries {
					if Holds(q.Pred, h) != Holds(made.Queries[i].Pred, h) {
						t.Errorf("%v and %v: one alone holds of %v", q.Pred, made.Queries[i].Pred, h)
					}
				}
			}
			if terms(made.Main) < terms(p.Main) {
				changed++
			}
		}
	}
	if changed < 5000 || greater > 2000 {
		t.Errorf("%d plain forms are shorter, %d too big: too few to tell", changed, greater)
	}
}
