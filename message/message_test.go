package message

import (
	"bytes"
	"math"
	"math/rand"
	"slices"
	"testing"

	"tollbridge/api"
)

type sample struct {
	hex string
	m   api.Message
}

// everyField masks all fields, each with a Value of its own.
var everyField = api.Match{
	Value: api.Header{0x010203040506, 0x8182838485, 0x0800, 0x0abc, 0x0a000001, 0x80, 0x11, 0x0102, 0x50, 0xfffe, 0x1000},
	Mask:  api.Header{1<<48 - 1, 0xffffffffff, 0xff00, 0x0fff, 1<<32 - 1, 0x80, 0x1f, 0xffff, 0xff, 0xffff, 0xf000},
}

const everyFieldHex = "07ff " +
	"010203040506 ffffffffffff 008182838485 00ffffffffff 0800 ff00 0abc 0fff 0a000001 ffffffff 00000080 00000080 " +
	"11 1f 0102 ffff 0050 00ff fffe ffff 1000 f000"

// samples has each row of the chapter's tables, by hand.
func samples() []sample {
	return []sample{
		{"01 00 0008 00000000", api.Message{Type: api.MsgHello}},
		{"01 00 0008 ffffffff", api.Message{Type: api.MsgHello, Id: math.MaxUint32}},
		{"01 01 0008 00000005", api.Message{Type: api.MsgEcho, Id: 5}},
		{"01 02 0008 01020304", api.Message{Type: api.MsgEchoed, Id: 0x01020304}},
		{"01 03 0008 00000100", api.Message{Type: api.MsgAsk, Id: 256}},
		{"01 08 0008 80000000", api.Message{Type: api.MsgBarrier, Id: 1 << 31}},
		{"01 09 0008 00000001", api.Message{Type: api.MsgBarred, Id: 1}},
		{"01 0a 0008 00000002", api.Message{Type: api.MsgStats, Id: 2}},

		{"01 04 000e 00000000 0000 0000 0000", api.Message{Type: api.MsgFeatures}},
		{"01 04 0018 00000009 0102 0003 0001 ff00 ffff 0002 0304 0000",
			api.Message{Type: api.MsgFeatures, Id: 9, Switch: 0x102, Ports: []uint16{1, 0xff00, 0xffff}, Edge: []uint16{0x304, 0}}},
		{"01 04 0010 00000000 ffff 0001 0007 0000", api.Message{Type: api.MsgFeatures, Switch: 0xffff, Ports: []uint16{7}}},
		{"01 04 0010 00000000 0000 0000 0001 0007", api.Message{Type: api.MsgFeatures, Edge: []uint16{7}}},

		{"01 05 0019 00000000 00 00000000 0000000000000000 0000 0000", api.Message{Type: api.MsgRule}},
		{"01 05 0019 00000000 01 00000001 0102030405060708 0000 0000",
			api.Message{Type: api.MsgRule, Do: api.RuleModify, Rule: api.Rule{Rank: 1, Cookie: 0x0102030405060708}}},
		{"01 05 0019 00000000 02 80000000 ffffffffffffffff 0000 0000",
			api.Message{Type: api.MsgRule, Do: api.RuleDelete, Rule: api.Rule{Rank: math.MinInt32, Cookie: math.MaxUint64}}},
		{"01 05 0019 00000000 03 7fffffff 0000000000000000 0000 0000",
			api.Message{Type: api.MsgRule, Do: api.RuleStrict, Rule: api.Rule{Rank: math.MaxInt32}}},
		{"01 05 005b 00000000 00 ffffffff 0000000000000000" + everyFieldHex + "0000",
			api.Message{Type: api.MsgRule, Rule: api.Rule{Rank: -1, Match: everyField}}},
		{"01 05 0049 01020304 00 00000000 0000000000000000 0000 0004" +
			"0003 00 03 0000000000000007 01 00 0000000000000002 02 00 0000000000000000" +
			"0000" +
			"0001 00 00 ffffffffffffffff" +
			"0000",
			api.Message{Type: api.MsgRule, Id: 0x01020304, Rule: api.Rule{Copies: [][]api.Action{
				{{Do: api.ActSet, Field: api.Vlan, N: 7}, {Do: api.ActOut, N: 2}, {Do: api.ActPunt}},
				{},
				{{Do: api.ActSet, Field: api.Src, N: math.MaxUint64}},
				nil,
			}}}},

		{"01 06 000e 00000000 0002 0002 6162", api.Message{Type: api.MsgIn, Port: 2, Frame: []byte("ab")}},
		{"01 06 000c 00000000 0000 0000", api.Message{Type: api.MsgIn}},
		{"01 07 000d 00000003 ffff 0001 00", api.Message{Type: api.MsgOut, Id: 3, Port: 0xffff, Frame: []byte{0}}},
		{"01 07 000c 00000000 0100 0000", api.Message{Type: api.MsgOut, Port: 256}},

		{"01 0b 000c 00000000 0000 0000", api.Message{Type: api.MsgStated}},
		{"01 0b 000c 00000004 0001 0000", api.Message{Type: api.MsgStated, Id: 4, Port: 1}},
		{"01 0b 0064 00000000 0001 0002" +
			"00000007 0000000700000000 0001 000000000001 000000000003 0001 0001 01 00 0000000000000000 0000000000000001 000000000000003c" +
			"fffffffe 0000000000000008 0000 0000 0102030405060708 ffffffffffffffff",
			api.Message{Type: api.MsgStated, Port: 1, Helds: []api.Held{
				{Rule: api.Rule{Rank: 7, Cookie: 7 << 32, Match: api.Match{Value: api.Header{1}, Mask: api.Header{3}}, Copies: [][]api.Action{{{Do: api.ActOut}}}},
					Counts: api.Counts{Packets: 1, Bytes: 60}},
				{Rule: api.Rule{Rank: -2, Cookie: 8}, Counts: api.Counts{Packets: 0x0102030405060708, Bytes: math.MaxUint64}},
			}}},

		{"01 0c 000b 00000000 0003 01", api.Message{Type: api.MsgPort, Port: 3, Up: true}},
		{"01 0c 000b 00000000 ff03 00", api.Message{Type: api.MsgPort, Port: 0xff03}},
		{"01 0d 000a 00000000 0004", api.Message{Type: api.MsgError, Code: 4}},
		{"01 0d 000a 00000006 ffff", api.Message{Type: api.MsgError, Id: 6, Code: 0xffff}},
		{"01 0d 000a 00000000 0000", api.Message{Type: api.MsgError}},
	}
}

// P7.1 to P7.3: each row of the tables, there and back.
func TestEachRow(t *testing.T) {
	for _, s := range samples() {
		wantBytes(t, s.m, unhex(s.hex))
		if !bytes.Equal(words(s.m), unhex(s.hex)) {
			t.Errorf("the tests' own words say %s of %s", short(words(s.m)), s.hex)
		}
	}
}

// P7.1 to P7.3: the chapter's examples, row by row.
func TestExamples(t *testing.T) {
	wantBytes(t, api.Message{Type: api.MsgEcho, Id: 5}, unhex("01 01 0008 00000005"))
	wantBytes(t, api.Message{Type: api.MsgPort, Id: 0, Port: 3, Up: true}, unhex("01 0c 000b 00000000 0003 01"))
	wantBytes(t, api.Message{Type: api.MsgError, Code: 4}, unhex("01 0d 000a 00000000 0004"))
	wantRefused(t, unhex("01 01 0008 000000"), api.ErrShort)
	wantRefused(t, unhex("01 01 0008 00000005 00"), api.ErrMessage)
	wantRefused(t, unhex("01 01 0009 00000005 00"), api.ErrMessage)
	wantRefused(t, unhex("01 0c 000b 00000000 0003 02"), api.ErrMessage)
}

// P7.1, P7.3: fourteen Types, and no others.
func TestTypes(t *testing.T) {
	for kind := math.MinInt8; kind <= math.MaxInt8; kind++ {
		m := api.Message{Type: int8(kind), Id: 7}
		if kind >= 0 && kind <= 13 {
			wantBytes(t, m, words(m))
		} else {
			wantBothNone(t, m)
		}
	}
}

// spoilers set one field of a message, by the field's name.
func spoilers() map[string][]func(m *api.Message) {
	return map[string][]func(m *api.Message){
		"Do": {
			func(m *api.Message) { m.Do = 1 },
			func(m *api.Message) { m.Do = -1 },
		},
		"Rule": {
			func(m *api.Message) { m.Rule.Rank = 1 },
			func(m *api.Message) { m.Rule.Cookie = 1 << 63 },
			func(m *api.Message) { m.Rule.Match.Mask[api.Switch] = 1 },
			func(m *api.Message) { m.Rule.Match.Mask[api.Src], m.Rule.Match.Value[api.Src] = 1, 1 },
			func(m *api.Message) { m.Rule.Match.Value[api.Kind] = 1 },
			func(m *api.Message) { m.Rule.Copies = [][]api.Action{{{}}} },
			func(m *api.Message) { m.Rule.Copies = [][]api.Action{{}} },
			func(m *api.Message) { m.Rule.Copies = [][]api.Action{nil} },
		},
		"Port":   {func(m *api.Message) { m.Port = 1 }, func(m *api.Message) { m.Port = 1 << 15 }},
		"Up":     {func(m *api.Message) { m.Up = true }},
		"Switch": {func(m *api.Message) { m.Switch = 1 }, func(m *api.Message) { m.Switch = 1 << 15 }},
		"Ports":  {func(m *api.Message) { m.Ports = []uint16{0} }, func(m *api.Message) { m.Ports = []uint16{1, 2} }},
		"Edge":   {func(m *api.Message) { m.Edge = []uint16{0} }},
		"Frame":  {func(m *api.Message) { m.Frame = []byte{0} }},
		"Helds":  {func(m *api.Message) { m.Helds = []api.Held{{}} }},
		"Code":   {func(m *api.Message) { m.Code = 1 }, func(m *api.Message) { m.Code = 1 << 15 }},
	}
}

var counting = [14][]string{
	api.MsgFeatures: {"Switch", "Ports", "Edge"},
	api.MsgRule:     {"Do", "Rule"},
	api.MsgIn:       {"Port", "Frame"},
	api.MsgOut:      {"Port", "Frame"},
	api.MsgStated:   {"Port", "Helds"},
	api.MsgPort:     {"Port", "Up"},
	api.MsgError:    {"Code"},
}

// P7.1: a field that does not count is zero or empty; an empty list that is not nil is empty too.
func TestFieldsThatDoNotCount(t *testing.T) {
	list := samples()
	for kind := range int8(14) {
		list = append(list, sample{m: api.Message{Type: kind}})
	}
	for _, s := range list {
		for name, all := range spoilers() {
			for _, spoil := range all {
				m := plain(s.m)
				spoil(&m)
				if !slices.Contains(counting[m.Type], name) {
					wantNone(t, m, api.ErrMessage)
				}
			}
		}
		m := plain(s.m)
		m.Ports, m.Edge, m.Frame = append([]uint16{}, m.Ports...), append([]uint16{}, m.Edge...), append([]byte{}, m.Frame...)
		m.Helds, m.Rule.Copies = append([]api.Held{}, m.Helds...), append([][]api.Action{}, m.Rule.Copies...)
		wantBytes(t, m, words(s.m))
	}
}

// withRule is a message that has the rule: alone, and as the last of several.
func withRule(r api.Rule) []api.Message {
	return []api.Message{
		{Type: api.MsgRule, Rule: r},
		{Type: api.MsgStated, Helds: []api.Held{{Rule: r}}},
		{Type: api.MsgStated, Port: 1, Helds: []api.Held{{}, {Rule: api.Rule{Rank: 5}}, {Rule: r}}},
	}
}

// P7.1, P7.3: a rule message's Do is from 0 to 3.
func TestDo(t *testing.T) {
	for do := math.MinInt8; do <= math.MaxInt8; do++ {
		m := api.Message{Type: api.MsgRule, Do: int8(do), Rule: api.Rule{Rank: 1}}
		if do >= 0 && do <= 3 {
			wantBytes(t, m, words(m))
		} else {
			wantBothNone(t, m)
		}
	}
}

// P7.1: Rank is from -2^31 to 2^31 - 1.
func TestRank(t *testing.T) {
	for _, rank := range []int{0, 1, -1, 255, 256, -256, 1<<31 - 2, 1<<31 - 1, -1<<31 + 1, -1 << 31} {
		for _, m := range withRule(api.Rule{Rank: rank}) {
			wantBytes(t, m, words(m))
		}
	}
	for _, rank := range []int{1 << 31, 1<<31 + 1, 1<<32 - 1, 1 << 32, 1<<32 + 1, -1<<31 - 1, -1 << 32, math.MaxInt, math.MinInt} {
		for _, m := range withRule(api.Rule{Rank: rank}) {
			wantNone(t, m, api.ErrMessage)
		}
	}
}

// P7.1, P7.3: of a Set any field's number that a byte and an int8 hold, of an Out no Field, of a Punt
// neither Field nor N.
func TestActions(t *testing.T) {
	for do := math.MinInt8; do <= math.MaxInt8; do++ {
		for field := math.MinInt8; field <= math.MaxInt8; field++ {
			if do < -2 && do > -126 && field != 0 {
				continue
			}
			for _, n := range []uint64{0, 1, 1 << 16, 1 << 63, math.MaxUint64} {
				a := api.Action{Do: int8(do), Field: int8(field), N: n}
				m := api.Message{Type: api.MsgRule, Rule: api.Rule{Copies: [][]api.Action{{}, {{Do: api.ActOut, N: 3}, a}}}}
				if do == 0 && field >= 0 || do == 1 && field == 0 || do == 2 && field == 0 && n == 0 {
					wantBytes(t, m, words(m))
				} else {
					wantBothNone(t, m)
				}
			}
		}
	}
}

// P7.1, P7.3: wherever the action is that is none.
func TestActionAnywhere(t *testing.T) {
	good := api.Action{Field: api.To, N: 5}
	for copies := 1; copies <= 3; copies++ {
		for place := range copies * 3 {
			r := api.Rule{Rank: 3}
			for range copies {
				r.Copies = append(r.Copies, []api.Action{good, good, good})
			}
			r.Copies[place/3][place%3] = api.Action{Do: 3}
			for _, m := range withRule(r) {
				wantBothNone(t, m)
			}
		}
	}
}

func one(field int, value, mask uint64) api.Match {
	var m api.Match
	m.Value[field], m.Mask[field] = value, mask
	return m
}

// P7.2, P7.3: each field's Value and Mask, every bit of them, in as many bytes as hold its width.
func TestMatchEveryBit(t *testing.T) {
	for field, width := range widths {
		end := uint64(1)<<width - 1
		list := []api.Match{one(field, 0, end), one(field, end, end), one(field, 1, end), one(field, end-1, end)}
		for bit := range width {
			list = append(list, one(field, 0, 1<<bit), one(field, 1<<bit, 1<<bit), one(field, 1<<bit, end))
		}
		for _, match := range list {
			for _, m := range withRule(api.Rule{Match: match}) {
				wantBytes(t, m, words(m))
			}
			b, _ := Encode(withRule(api.Rule{Match: match})[0])
			if len(b) != 25+2*inBytes[field] {
				t.Errorf("field %d goes in %d bytes", field, len(b)-25)
			}
		}
	}
}

// P7.1, P7.3: what match.Check refuses is in no message; a bit past a width that its bytes still hold
// is told by Decode too.
func TestNoMatch(t *testing.T) {
	for field, width := range widths {
		var list []api.Match
		for bit := range 64 {
			list = append(list, one(field, 1<<bit, 0), one(field, 1<<bit, 1<<bit^1<<(width-1)|1<<(bit+1)&(1<<width-1)))
		}
		for bit := width; bit < 64; bit++ {
			list = append(list, one(field, 0, 1<<bit), one(field, 1<<bit, 1<<bit), one(field, 0, 1<<bit|1))
		}
		for _, match := range list {
			if match.Value[field]|match.Mask[field] == match.Mask[field] && match.Mask[field] < 1<<width {
				continue
			}
			for _, m := range withRule(api.Rule{Match: match}) {
				wantNone(t, m, api.ErrMessage)
				if match.Mask[field] != 0 && max(match.Value[field], match.Mask[field]) < 1<<(8*inBytes[field]) {
					wantRefused(t, words(m), api.ErrMessage)
				}
			}
		}
	}
}

// P7.1, P7.3: Port of a MsgStated says whether more follow; of the others it is any.
func TestPort(t *testing.T) {
	for port := range 1 << 16 {
		for _, m := range []api.Message{
			{Type: api.MsgIn, Port: uint16(port), Frame: []byte{1}},
			{Type: api.MsgOut, Port: uint16(port)},
			{Type: api.MsgPort, Port: uint16(port)},
		} {
			if b, e := Encode(m); e != api.OK || !bytes.Equal(b, words(m)) {
				t.Fatalf("Port %d of Type %d: %x, %v", port, m.Type, b, e)
			}
		}
		m := api.Message{Type: api.MsgStated, Port: uint16(port)}
		if port <= 1 {
			wantBytes(t, m, words(m))
		} else if e := Check(m); e != api.ErrMessage {
			t.Fatalf("Port %d of MsgStated: %v", port, e)
		} else if _, e := Decode(words(m)); e != api.ErrMessage {
			t.Fatalf("Port %d of MsgStated is read: %v", port, e)
		}
	}
}

func frameOf(kind int8, n int) api.Message {
	return api.Message{Type: kind, Frame: make([]byte, n)}
}

func copiesOf(copies, actions int) api.Rule {
	r := api.Rule{Copies: make([][]api.Action, copies)}
	r.Copies[copies-1] = make([]api.Action, actions)
	return r
}

// P7.1, P7.2: of each Type that can be too long: one that just goes in (8192 bytes, or 8191 of those
// whose parts have even sizes), and one past it.
func TestLong(t *testing.T) {
	stated := make([]api.Held, 255) // 12 + 255 * 32 = 8172
	tests := []struct {
		fits, long api.Message
		size       int
	}{
		{frameOf(api.MsgIn, 8180), frameOf(api.MsgIn, 8181), 8192},
		{frameOf(api.MsgOut, 8180), frameOf(api.MsgOut, 8181), 8192},
		{api.Message{Type: api.MsgFeatures, Ports: make([]uint16, 4089)}, api.Message{Type: api.MsgFeatures, Ports: make([]uint16, 4090)}, 8192},
		{api.Message{Type: api.MsgFeatures, Edge: make([]uint16, 4089)}, api.Message{Type: api.MsgFeatures, Edge: make([]uint16, 4090)}, 8192},
		{api.Message{Type: api.MsgFeatures, Ports: make([]uint16, 2000), Edge: make([]uint16, 2089)},
			api.Message{Type: api.MsgFeatures, Ports: make([]uint16, 2001), Edge: make([]uint16, 2089)}, 8192},
		{api.Message{Type: api.MsgRule, Rule: copiesOf(4083, 0)}, api.Message{Type: api.MsgRule, Rule: copiesOf(4084, 0)}, 8191},
		{api.Message{Type: api.MsgRule, Rule: copiesOf(3, 816)}, api.Message{Type: api.MsgRule, Rule: copiesOf(4, 816)}, 8191},
		{api.Message{Type: api.MsgRule, Rule: copiesOf(2, 816)}, api.Message{Type: api.MsgRule, Rule: copiesOf(2, 817)}, 8189},
		{api.Message{Type: api.MsgStated, Helds: stated}, api.Message{Type: api.MsgStated, Helds: make([]api.Held, 256)}, 8172},
		{api.Message{Type: api.MsgStated, Helds: append(slices.Clone(stated[1:]), api.Held{Rule: copiesOf(10, 0)})},
			api.Message{Type: api.MsgStated, Helds: append(slices.Clone(stated[1:]), api.Held{Rule: copiesOf(11, 0)})}, 8192},
	}
	for _, test := range tests {
		if n := len(words(test.fits)); n != test.size {
			t.Errorf("the test's message has %d bytes, not %d", n, test.size)
		}
		wantBytes(t, test.fits, words(test.fits))
		wantNone(t, test.long, api.ErrLong)
	}
}

// P7.1: small parts behind a great one that has no room left do not make the message fit.
func TestLongAndSmallBehind(t *testing.T) {
	for actions := 810; actions <= 820; actions++ {
		for empty := range 12 {
			r := api.Rule{Copies: make([][]api.Action, 1+empty)}
			r.Copies[0] = make([]api.Action, actions)
			m := api.Message{Type: api.MsgRule, Rule: r}
			if size := 25 + 2 + 10*actions + 2*empty; size <= 8192 {
				wantBytes(t, m, words(m))
			} else {
				wantNone(t, m, api.ErrLong)
			}
		}
	}
}

// P7.1: far past the bound too, and where a list has more members than its two bytes can say.
func TestFarTooLong(t *testing.T) {
	for _, n := range []int{8182, 8192, 8193, 1<<16 - 13, 1<<16 - 12, 1<<16 - 11, 1<<16 - 1, 1 << 16, 1<<16 + 1, 1<<16 + 8180, 1 << 20} {
		wantNone(t, frameOf(api.MsgIn, n), api.ErrLong)
		wantNone(t, frameOf(api.MsgOut, n), api.ErrLong)
		wantNone(t, api.Message{Type: api.MsgFeatures, Ports: make([]uint16, n)}, api.ErrLong)
		wantNone(t, api.Message{Type: api.MsgFeatures, Edge: make([]uint16, n)}, api.ErrLong)
		wantNone(t, api.Message{Type: api.MsgRule, Rule: copiesOf(n, 0)}, api.ErrLong)
		wantNone(t, api.Message{Type: api.MsgRule, Rule: copiesOf(1, n)}, api.ErrLong)
		if n <= 1<<17 {
			wantNone(t, api.Message{Type: api.MsgStated, Helds: make([]api.Held, n)}, api.ErrLong)
		}
	}
}

// P7.1: that it is none goes ahead of its being too long, wherever each of the two is.
func TestNoneAheadOfLong(t *testing.T) {
	long := copiesOf(5000, 3)
	helds := make([]api.Held, 300)
	for _, spoil := range []func(r *api.Rule){
		func(r *api.Rule) { r.Rank = 1 << 31 },
		func(r *api.Rule) { r.Match.Value[api.Src] = 1 },
		func(r *api.Rule) { r.Copies[len(r.Copies)-1][2].Do = 3 },
		func(r *api.Rule) { r.Copies[len(r.Copies)-1][0].Field = -1 },
	} {
		r := plainRule(long)
		spoil(&r)
		wantNone(t, api.Message{Type: api.MsgRule, Rule: r}, api.ErrMessage)
		for _, place := range []int{0, 1, 254, 255, 256, 299} {
			list := slices.Clone(helds)
			list[place].Rule = r
			wantNone(t, api.Message{Type: api.MsgStated, Helds: list}, api.ErrMessage)
		}
	}
	wantNone(t, api.Message{Type: api.MsgRule, Do: 4, Rule: long}, api.ErrMessage)
	wantNone(t, api.Message{Type: api.MsgStated, Port: 2, Helds: helds}, api.ErrMessage)
	wantNone(t, api.Message{Type: api.MsgIn, Frame: make([]byte, 9000), Code: 1}, api.ErrMessage)
	wantNone(t, api.Message{Type: api.MsgFeatures, Ports: make([]uint16, 5000), Up: true}, api.ErrMessage)
	wantNone(t, api.Message{Type: 14, Frame: make([]byte, 9000)}, api.ErrMessage)
	wantNone(t, api.Message{Type: api.MsgEcho, Frame: make([]byte, 9000)}, api.ErrMessage)
	wantNone(t, api.Message{Type: api.MsgPort, Helds: helds}, api.ErrMessage)
	wantNone(t, api.Message{Type: api.MsgStated, Rule: long}, api.ErrMessage)
}

// spoilt is m with one thing of it set to anything, which may leave it a message.
func spoilt(r *rand.Rand, m api.Message) api.Message {
	m = plain(m)
	rule := &m.Rule
	if len(m.Helds) > 0 {
		rule = &m.Helds[r.Intn(len(m.Helds))].Rule
	}
	switch field := r.Intn(api.Fields); r.Intn(15) {
	case 0:
		m.Type = int8(anyNumber(r))
	case 1:
		m.Do = int8(anyNumber(r))
	case 2:
		rule.Rank = int(anyNumber(r))
	case 3:
		rule.Match.Value[field] = anyNumber(r)
	case 4:
		rule.Match.Mask[field] = anyNumber(r)
	case 5:
		rule.Copies = append(rule.Copies, []api.Action{{Do: int8(r.Intn(5) - 1), Field: int8(r.Intn(5) - 2), N: uint64(r.Intn(2))}})
	case 6:
		rule.Cookie = anyNumber(r)
	case 7:
		m.Port = uint16(anyNumber(r))
	case 8:
		m.Up = r.Intn(2) == 0
	case 9:
		m.Switch = uint16(anyNumber(r))
	case 10:
		m.Ports = anyPorts(r)
	case 11:
		m.Edge = anyPorts(r)
	case 12:
		m.Frame = make([]byte, []int{0, 1, 20, 8180, 8181, 9000}[r.Intn(6)])
	case 13:
		m.Helds = append(m.Helds, make([]api.Held, []int{0, 1, 2, 250, 256}[r.Intn(5)])...)
	case 14:
		m.Code = uint16(anyNumber(r))
	}
	return m
}

// P7.1, P7.2: any fields, against the chapter's words.
func TestAgainstWords(t *testing.T) {
	r := rand.New(rand.NewSource(71))
	told := map[api.Errno]int{}
	for range 60000 {
		m := anyMessage(r)
		for range r.Intn(3) {
			m = spoilt(r, m)
		}
		want := verdict(m)
		told[want]++
		if want == api.OK {
			wantBytes(t, m, words(m))
		} else {
			wantNone(t, m, want)
		}
		if t.Failed() {
			return
		}
	}
	if told[api.OK] < 1000 || told[api.ErrLong] < 100 || told[api.ErrMessage] < 1000 {
		t.Errorf("too few of one kind: %v", told)
	}
}
