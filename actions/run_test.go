package actions

import (
	"math"
	"math/rand"
	"slices"
	"testing"

	"tollbridge/api"
)

// P12.2: nothing to do, nothing goes out.
func TestRunNothing(t *testing.T) {
	ports := []uint16{0, 1, 2, 3}
	for _, c := range [][][]api.Action{nil, {}, {nil}, {{}, nil}, {one(set(api.To, 1))}} {
		goesOut(t, example, c, ports, false)
		goesOut(t, example, c, nil, false)
		goesOut(t, api.Header{}, c, ports, false)
	}
}

// P12.2: a Set is seen by every later Out of its copy, and by no other copy.
func TestRunSet(t *testing.T) {
	h := example
	for field := range widths {
		if field == api.Port {
			continue
		}
		for _, n := range numbers {
			a := set(int8(field), n)
			changed := with(h, field, n)
			goesOut(t, h, copies(one(a, out(0))), []uint16{3}, false, changed)
			goesOut(t, h, copies(one(out(0), a, out(0), out(0)), one(out(0))), []uint16{3}, false, h, changed, changed, h)
			goesOut(t, h, copies(one(out(0), a), one(out(0))), []uint16{3}, false, h, h)
			goesOut(t, h, copies(one(a, set(int8(field), 1), out(0))), []uint16{3}, false, with(h, field, 1))
		}
	}
}

// P12.2: an Out's number is the Port of what goes out alone; the copy's own
// header keeps the Port that it had.
func TestRunOut(t *testing.T) {
	h := example
	goesOut(t, h, copies(one(out(1), out(0), out(2), out(0))), []uint16{1, 2, 3}, false,
		with(h, api.Port, 1), h, with(h, api.Port, 2), h)
	goesOut(t, h, copies(one(out(1), out(0))), []uint16{1}, false, with(h, api.Port, 1))
	goesOut(t, h, copies(one(out(7), out(0))), []uint16{3}, false, h)
	goesOut(t, h, copies(one(out(3))), []uint16{3}, false, h)
	goesOut(t, h, copies(one(out(1), out(1)), one(out(1))), []uint16{1}, false,
		with(h, api.Port, 1), with(h, api.Port, 1), with(h, api.Port, 1))
}

// P12.2: what goes out has one of ports as its Port, the numbers at their ends
// too, and 0, which a header has that is nowhere.
func TestRunPorts(t *testing.T) {
	h := example
	nowhere := with(h, api.Port, 0)
	goesOut(t, nowhere, copies(one(out(0))), []uint16{1, 2, 3}, false)
	goesOut(t, nowhere, copies(one(out(0))), []uint16{0}, false, nowhere)
	goesOut(t, h, copies(one(out(0))), []uint16{0}, false)
	goesOut(t, h, copies(one(out(65535))), []uint16{65535}, false, with(h, api.Port, 65535))
	goesOut(t, h, copies(one(out(65535))), []uint16{65534}, false)
	goesOut(t, h, copies(one(out(1))), nil, false)
	goesOut(t, h, copies(one(out(1))), []uint16{}, false)
	goesOut(t, h, copies(one(out(1))), []uint16{2, 1, 1, 1}, false, with(h, api.Port, 1))

	var every []uint16
	for p := range 1 << 16 {
		every = append(every, uint16(p))
	}
	goesOut(t, h, copies(one(out(65535), out(0), out(1))), every, false, with(h, api.Port, 65535), h, with(h, api.Port, 1))
	for _, n := range []uint64{1 << 16, 1<<16 + 1, 1<<32 + 1, 1<<48 + 3, 1<<63 + 3, math.MaxUint64} {
		goesOut(t, h, copies(one(out(n))), every, false)
		goesOut(t, with(h, api.Port, n), copies(one(out(0))), every, false)
		goesOut(t, with(h, api.Port, n), copies(one(out(2))), every, false, with(h, api.Port, 2))
	}
}

// P12.2: whatever the actions are: Run sets what Check would not let in, and
// every number as it is.
func TestRunSetsAnything(t *testing.T) {
	h := example
	goesOut(t, h, copies(one(set(api.Port, 2), out(0), out(1), out(0))), []uint16{1, 2, 3}, false,
		with(h, api.Port, 2), with(h, api.Port, 1), with(h, api.Port, 2))
	goesOut(t, h, copies(one(set(api.Port, 2)), one(out(0))), []uint16{1, 2, 3}, false, h)
	goesOut(t, h, copies(one(set(api.Port, 9), out(0))), []uint16{1, 2, 3}, false)
	goesOut(t, h, copies(one(set(api.Port, 1<<16+1), out(0), out(2))), []uint16{1, 2, 3}, false, with(h, api.Port, 2))
	goesOut(t, h, copies(one(set(api.Port, 0), out(0))), []uint16{0, 3}, false, with(h, api.Port, 0))
	goesOut(t, h, copies(one(set(api.Kind, 1), set(api.Switch, math.MaxUint64), set(api.Proto, 256), out(1))), []uint16{1}, false,
		with(with(with(with(h, api.Kind, 1), api.Switch, math.MaxUint64), api.Proto, 256), api.Port, 1))
}

// P12.2: what is no action does nothing, a Set of what is no field neither, and
// those around it are done all the same.
func TestRunNone(t *testing.T) {
	h := example
	want := []api.Header{with(h, api.Port, 1), with(with(h, api.To, 5), api.Port, 2)}
	around := func(a api.Action) [][]api.Action {
		return copies(one(a, out(1), a, set(api.To, 5), a, out(2), a), one(a))
	}
	for n := math.MinInt8; n <= math.MaxInt8; n++ {
		for _, number := range numbers {
			if n < 0 || n > 2 {
				goesOut(t, h, around(api.Action{Do: int8(n), Field: api.To, N: number}), []uint16{1, 2, 3}, false, want...)
				goesOut(t, h, around(api.Action{Do: int8(n), Field: int8(n), N: number}), []uint16{1, 2, 3}, false, want...)
			}
			if n < 0 || n >= api.Fields {
				goesOut(t, h, around(set(int8(n), number)), []uint16{1, 2, 3}, false, want...)
			}
		}
	}
}

// P12.2: a field of an action that does not count changes nothing.
func TestRunDoesNotCount(t *testing.T) {
	h := example
	for field := math.MinInt8; field <= math.MaxInt8; field++ {
		for _, n := range numbers {
			sent := api.Action{Do: api.ActOut, Field: int8(field), N: 2}
			punted := api.Action{Do: api.ActPunt, Field: int8(field), N: n}
			goesOut(t, h, copies(one(sent, out(0))), []uint16{2, 3}, false, with(h, api.Port, 2), h)
			goesOut(t, h, copies(one(punted, out(0))), []uint16{2, 3}, true, h)
		}
	}
}

// P12.2: one Punt in any copy, at any place, is a Punt; without one there is none.
func TestRunPunt(t *testing.T) {
	h := example
	for copyAt := range 4 {
		for at := range 3 {
			c := filled(3, 3, 3, 3)
			goesOut(t, h, c, nil, false)
			c[copyAt][at] = punt()
			goesOut(t, h, c, nil, true)
			goesOut(t, h, c, []uint16{1}, true, slices.Repeat([]api.Header{with(h, api.Port, 1)}, 11)...)
		}
	}
	goesOut(t, h, copies(one(punt(), punt()), one(punt())), nil, true)
	goesOut(t, h, copies(one(punt(), set(api.To, 5), out(1))), []uint16{1}, true, with(with(h, api.To, 5), api.Port, 1))
}

// plainRun is the chapter's words, told once more.
func plainRun(h api.Header, c [][]api.Action, ports []uint16) (list []api.Header, punt bool) {
	there := map[uint64]bool{}
	for _, p := range ports {
		there[uint64(p)] = true
	}
	for _, actions := range c {
		now := map[int]uint64{}
		for field, n := range h {
			now[field] = n
		}
		for _, a := range actions {
			if _, isOne := now[int(a.Field)]; a.Do == 0 && isOne {
				now[int(a.Field)] = a.N
			}
			if a.Do == 2 {
				punt = true
			}
			if a.Do != 1 {
				continue
			}
			var sent api.Header
			for field, n := range now {
				sent[field] = n
			}
			if a.N != 0 {
				sent[api.Port] = a.N
			}
			if there[sent[api.Port]] {
				list = append(list, sent)
			}
		}
	}
	return list, punt
}

func someNumber(g *rand.Rand) uint64 {
	if g.Intn(2) == 0 {
		return uint64(g.Intn(5))
	}
	return numbers[g.Intn(len(numbers))]
}

func someHeader(g *rand.Rand) api.Header {
	var h api.Header
	for field := range h {
		h[field] = someNumber(g)
	}
	return h
}

// someAction is now and then none, or one that Check refuses.
func someAction(g *rand.Rand) api.Action {
	a := api.Action{Do: int8(g.Intn(3)), Field: int8(g.Intn(api.Fields)), N: someNumber(g)}
	if g.Intn(8) == 0 {
		a.Do = int8(g.Intn(256) - 128)
	}
	if g.Intn(8) == 0 {
		a.Field = int8(g.Intn(256) - 128)
	}
	return a
}

func someCopies(g *rand.Rand) [][]api.Action {
	var c [][]api.Action
	for range g.Intn(5) {
		var list []api.Action
		for range g.Intn(6) {
			list = append(list, someAction(g))
		}
		c = append(c, list)
	}
	return c
}

func somePorts(g *rand.Rand) []uint16 {
	var ports []uint16
	for range g.Intn(6) {
		ports = append(ports, uint16(someNumber(g)))
	}
	return ports
}

// P12.2: any header, any actions, any ports.
func TestRunAgainstPlain(t *testing.T) {
	g := rand.New(rand.NewSource(121))
	sent, punts := 0, 0
	for range 50000 {
		h, c, ports := someHeader(g), someCopies(g), somePorts(g)
		want, wantPunt := plainRun(h, c, ports)
		goesOut(t, h, c, ports, wantPunt, want...)
		sent += len(want)
		if wantPunt {
			punts++
		}
		if t.Failed() {
			return
		}
	}
	if sent < 10000 || punts < 1000 || punts > 49000 {
		t.Errorf("too few of one kind: %d sent, %d punts", sent, punts)
	}
}

// P12.4: copies put one behind the other tell what they tell, put one behind
// the other.
func TestRunBehind(t *testing.T) {
	g := rand.New(rand.NewSource(124))
	for range 20000 {
		h, a, b, ports := someHeader(g), someCopies(g), someCopies(g), somePorts(g)
		first, firstPunt := Run(h, a, ports)
		second, secondPunt := Run(h, b, ports)
		goesOut(t, h, slices.Concat(a, b), ports, firstPunt || secondPunt, slices.Concat(first, second)...)
		if t.Failed() {
			return
		}
	}
}

// P12.4: a copy without Sets sends the header as it came, but for its Port.
func TestRunWithoutSets(t *testing.T) {
	g := rand.New(rand.NewSource(125))
	for range 20000 {
		h, c, ports := someHeader(g), someCopies(g), somePorts(g)
		for i := range c {
			c[i] = slices.DeleteFunc(c[i], func(a api.Action) bool { return a.Do == api.ActSet })
		}
		list, _ := Run(h, c, ports)
		for _, sent := range list {
			if with(sent, api.Port, h[api.Port]) != h {
				t.Fatalf("Run(%v, %v, %v) sends %v", h, c, ports, sent)
			}
		}
	}
}

// isWithin tells whether part is left of list once some of it is taken out.
func isWithin(part, list []api.Header) bool {
	for _, h := range list {
		if len(part) > 0 && part[0] == h {
			part = part[1:]
		}
	}
	return len(part) == 0
}

// P12.5: with more ports no less goes out, in the same order, and no other
// punt; in which order ports stand, and how often, changes nothing.
func TestRunMorePorts(t *testing.T) {
	g := rand.New(rand.NewSource(126))
	for range 20000 {
		h, c, ports := someHeader(g), someCopies(g), somePorts(g)
		few, fewPunt := Run(h, c, ports)
		more := append(slices.Clone(ports), somePorts(g)...)
		g.Shuffle(len(more), func(i, j int) { more[i], more[j] = more[j], more[i] })
		many, manyPunt := Run(h, c, more)
		if !isWithin(few, many) || fewPunt != manyPunt {
			t.Fatalf("%v of %v, %v of %v", few, ports, many, more)
		}
		turned := slices.Concat(ports, ports)
		slices.Reverse(turned)
		goesOut(t, h, c, turned, fewPunt, few...)
	}
}

// P12.5: another number in a field that is not set comes out as that number,
// and changes nothing else; in a field that is set ahead of every Out, nothing.
func TestRunOtherFields(t *testing.T) {
	g := rand.New(rand.NewSource(127))
	for range 20000 {
		h, c, ports := someHeader(g), someCopies(g), somePorts(g)
		field := g.Intn(api.Port)
		n := someNumber(g)
		ahead := slices.Clone(c)
		for i := range c {
			c[i] = slices.DeleteFunc(c[i], func(a api.Action) bool { return a.Do == api.ActSet && a.Field == int8(field) })
			ahead[i] = append(one(set(int8(field), 7)), c[i]...)
		}
		list, punt := Run(h, c, ports)
		for i := range list {
			list[i][field] = n
		}
		goesOut(t, with(h, field, n), c, ports, punt, list...)

		list, punt = Run(h, ahead, ports)
		goesOut(t, with(h, field, n), ahead, ports, punt, list...)
		if t.Failed() {
			return
		}
	}
}

// roomy is the list with a member behind its end, which nobody may write to.
func roomy[T any](list []T, behind T) []T {
	return append(slices.Clone(list), behind)[:len(list)]
}

// R3: nothing that is handed in is changed, nor the room behind it; what is
// handed out is new each time.
func TestMemory(t *testing.T) {
	mark := api.Action{Do: 77, Field: 77, N: 77}
	lists := func() [][]api.Action {
		c := copies(one(set(api.To, 5), out(1), punt()), one(out(0)), nil)
		for i := range c {
			c[i] = roomy(c[i], mark)
		}
		return roomy(c, one(mark))
	}
	c, ports := lists(), roomy([]uint16{1, 3}, 77)
	first, _ := Run(example, c, ports)
	again, _ := Run(example, c, ports)
	if Check(api.Rule{Copies: c}) != api.OK || !Same(c, lists()) {
		t.Error("the lists were changed")
	}
	for i := range c {
		if c[i][:len(c[i])+1][len(c[i])] != mark {
			t.Error("the room behind a copy was written to")
		}
	}
	if !slices.Equal(c[:4][3], one(mark)) || !slices.Equal(ports[:3], []uint16{1, 3, 77}) {
		t.Error("the room behind the lists was written to")
	}

	kept := slices.Clone(again)
	clear(first[:cap(first)])
	if !slices.Equal(again, kept) {
		t.Error("two answers share memory")
	}
	c[0][0], ports[0] = out(3), 9
	if !slices.Equal(again, kept) {
		t.Error("an answer shares memory with what was handed in")
	}
	goesOut(t, example, lists(), []uint16{1, 3}, true, kept...)
}

// R1: long lists end, too.
func TestRunLong(t *testing.T) {
	h := example
	many := slices.Repeat(one(out(1)), 1<<16)
	list, _ := Run(h, slices.Repeat(copies(many), 4), []uint16{2, 1})
	if len(list) != 4<<16 || list[0] != with(h, api.Port, 1) || list[len(list)-1] != list[0] {
		t.Error(len(list))
	}
	goesOut(t, h, make([][]api.Action, 1<<16), []uint16{1}, false)
}
