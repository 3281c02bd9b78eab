package flows

import (
	"math"

	"tollbridge/api"
)

// tally is counts that stay at the end of their width.
type tally struct {
	api.Counts
}

func (y *tally) add(more api.Counts) {
	y.Packets = sumOrEnd(y.Packets, more.Packets)
	y.Bytes = sumOrEnd(y.Bytes, more.Bytes)
}

func sumOrEnd(a, b uint64) uint64 {
	if b > math.MaxUint64-a {
		return math.MaxUint64
	}
	return a + b
}

// onePacket counts a packet of so many bytes.
func onePacket(add func(more api.Counts), bytes int) {
	add(api.Counts{Packets: 1, Bytes: uint64(max(bytes, 0))})
}
