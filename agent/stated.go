package agent

import (
	"slices"
	"sort"

	"tollbridge/api"
	"tollbridge/message"
)

// stated is what is said of the Helds, in as many messages as they want.
func stated(rest []api.Held) []api.Message {
	cut := func() api.Message {
		n := most(rest)
		m := api.Message{Type: api.MsgStated, Helds: slices.Clone(rest[:n])}
		if rest = rest[n:]; len(rest) > 0 {
			m.Port = 1
		}
		return m
	}
	list := []api.Message{cut()}
	for len(rest) > 0 {
		list = append(list, cut())
	}
	return list
}

// most is how many of the Helds, from the first on, one message can have. One
// that no message can have (the switch takes Ranks of more than 32 bits from
// others than its agent) still has a message of its own: none is left out.
func most(helds []api.Held) int {
	fit := func(n int) bool {
		return message.Check(api.Message{Type: api.MsgStated, Helds: helds[:n]}) == api.OK
	}
	// Check goes through all that it is handed: that is never to be much more
	// than what a message can have.
	least := min(1, len(helds))
	end := least
	for end < len(helds) && fit(end) {
		end = min(2*end, len(helds))
	}
	n := sort.Search(end, func(n int) bool { return !fit(n + 1) })
	return max(n, least)
}
