package message

import (
	"math"

	"tollbridge/api"
)

// writer puts bytes one behind the other. Those that a message has no room for
// are not kept, but what they stand for is still looked at: that a message is
// none goes ahead of its being too long.
type writer struct {
	kept []byte
	long bool
}

func (w *writer) bytes(b []byte) {
	w.long = w.long || len(b) > api.MaxMessage-len(w.kept)
	if !w.long {
		w.kept = append(w.kept, b...)
	}
}

// number writes the lowest bytes of n, as many as size says.
func (w *writer) number(size int, n uint64) {
	var all [8]byte
	for i := range all {
		all[i] = byte(n >> (56 - 8*i))
	}
	w.bytes(all[len(all)-size:])
}

// count may cut a number that is too great: so many make any message too long.
func (w *writer) count(n int) {
	w.number(countSize, uint64(n))
}

func writeList[T any](w *writer, list []T, write func(w *writer, member T)) {
	w.count(len(list))
	for _, member := range list {
		write(w, member)
	}
}

// message writes its size last, where it left room for it.
func (w *writer) message(m api.Message) {
	parts := partsOf(m.Type)
	rest := m
	for _, p := range parts {
		p.clear(&rest)
	}
	must(isBlank(rest))
	w.number(1, firstByte)
	w.number(1, uint64(m.Type))
	w.number(countSize, 0)
	w.number(4, uint64(m.Id))
	for _, p := range parts {
		p.write(w, &m)
	}
	size := len(w.kept)
	w.kept[sizeFirst], w.kept[sizeFirst+1] = byte(size>>8), byte(size)
}

func (w *writer) short(n uint16) {
	w.number(2, uint64(n))
}

func (w *writer) shorts(list []uint16) {
	writeList(w, list, (*writer).short)
}

func (w *writer) do(do int8) {
	must(isDo(do))
	w.number(1, uint64(do))
}

// more writes a Port that says whether more follow.
func (w *writer) more(port uint16) {
	must(port <= 1)
	w.short(port)
}

func (w *writer) up(up bool) {
	var n uint64
	if up {
		n = 1
	}
	w.number(1, n)
}

func (w *writer) frame(b []byte) {
	w.count(len(b))
	w.bytes(b)
}

func (w *writer) helds(list []api.Held) {
	writeList(w, list, (*writer).held)
}

func (w *writer) held(h api.Held) {
	w.rule(h.Rule)
	w.number(8, h.Counts.Packets)
	w.number(8, h.Counts.Bytes)
}

func (w *writer) rule(r api.Rule) {
	must(r.Rank >= math.MinInt32 && r.Rank <= math.MaxInt32)
	w.number(4, uint64(r.Rank))
	w.number(8, r.Cookie)
	w.match(r.Match)
	writeList(w, r.Copies, (*writer).actions)
}

func (w *writer) match(m api.Match) {
	must(isMatch(m))
	var masked uint64
	for field, mask := range m.Mask {
		if mask != 0 {
			masked |= 1 << field
		}
	}
	w.number(2, masked)
	for field, mask := range m.Mask {
		if mask != 0 {
			w.number(fieldSizes[field], m.Value[field])
			w.number(fieldSizes[field], mask)
		}
	}
}

func (w *writer) actions(list []api.Action) {
	writeList(w, list, (*writer).action)
}

func (w *writer) action(a api.Action) {
	must(isAction(a))
	w.number(1, uint64(a.Do))
	w.number(1, uint64(a.Field))
	w.number(8, a.N)
}
