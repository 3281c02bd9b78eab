package pipeline

import (
	"tollbridge/api"
	"tollbridge/cache"
	"tollbridge/flows"
)

// finder finds the rules of headers. The cache leads from headers to numbers of
// rules, which those get that were found since the table was last changed.
type finder struct {
	table   *flows.Table
	seen    *cache.Cache
	found   []api.Rule        // by their numbers
	numbers map[api.Match]int // of several rules of one Match the same is found each time
}

func newFinder(room, size int) finder {
	return finder{table: flows.New(room), seen: cache.New(size), numbers: map[api.Match]int{}}
}

func (f *finder) change(what int8, r api.Rule) (int, api.Errno) {
	n, fault := f.table.Do(what, r)
	if fault == api.OK {
		f.forget()
	}
	return n, fault
}

// forget lets go what was found in a table that is another one now.
func (f *finder) forget() {
	f.seen.Turn()
	f.found = nil
	clear(f.numbers)
}

// find tells the rule of a header; if there is none, the zero one, which does
// nothing and is of no version. The table is asked even if the cache knows the
// rule, because nothing else counts there.
func (f *finder) find(h api.Header, bytes int) api.Rule {
	r, there := f.table.Find(h, bytes)
	if !there {
		return api.Rule{}
	}
	number, known := f.seen.Get(h)
	if !known {
		number = f.numberOf(r)
		f.seen.Put(h, number)
	}
	return f.found[number]
}

func (f *finder) numberOf(r api.Rule) int {
	number, there := f.numbers[r.Match]
	if !there {
		number = len(f.found)
		f.numbers[r.Match] = number
		f.found = append(f.found, r)
	}
	return number
}
