package message

import (
	"encoding/binary"
	"encoding/hex"
	"math"
	"math/rand"
	"reflect"
	"slices"
	"strings"
	"testing"

	"tollbridge/api"
)

// The fields' widths, and in how many bytes they stand.
var (
	widths = [api.Fields]int{api.Src: 48, api.Dst: 48, api.Kind: 16, api.Vlan: 12, api.From: 32, api.To: 32,
		api.Proto: 8, api.SPort: 16, api.DPort: 16, api.Port: 16, api.Switch: 16}
	inBytes = [api.Fields]int{api.Src: 6, api.Dst: 6, api.Kind: 2, api.Vlan: 2, api.From: 4, api.To: 4,
		api.Proto: 1, api.SPort: 2, api.DPort: 2, api.Port: 2, api.Switch: 2}
)

var big = binary.BigEndian

// words are a message's bytes as the chapter's words have them, whatever it is.
func words(m api.Message) []byte {
	b := big.AppendUint32([]byte{1, byte(m.Type), 0, 0}, m.Id)
	switch m.Type {
	case api.MsgFeatures:
		b = big.AppendUint16(b, m.Switch)
		for _, list := range [][]uint16{m.Ports, m.Edge} {
			b = big.AppendUint16(b, uint16(len(list)))
			for _, n := range list {
				b = big.AppendUint16(b, n)
			}
		}
	case api.MsgRule:
		b = append(append(b, byte(m.Do)), ruleWords(m.Rule)...)
	case api.MsgIn, api.MsgOut:
		b = big.AppendUint16(big.AppendUint16(b, m.Port), uint16(len(m.Frame)))
		b = append(b, m.Frame...)
	case api.MsgStated:
		b = big.AppendUint16(big.AppendUint16(b, m.Port), uint16(len(m.Helds)))
		for _, h := range m.Helds {
			b = append(b, ruleWords(h.Rule)...)
			b = big.AppendUint64(big.AppendUint64(b, h.Counts.Packets), h.Counts.Bytes)
		}
	case api.MsgPort:
		b = append(big.AppendUint16(b, m.Port), map[bool]byte{true: 1}[m.Up])
	case api.MsgError:
		b = big.AppendUint16(b, m.Code)
	}
	big.PutUint16(b[2:], uint16(len(b)))
	return b
}

func ruleWords(r api.Rule) []byte {
	b := big.AppendUint64(big.AppendUint32(nil, uint32(r.Rank)), r.Cookie)
	var which uint16
	var fields []byte
	for field, mask := range r.Match.Mask {
		if mask != 0 {
			which |= 1 << field
			for _, n := range []uint64{r.Match.Value[field], mask} {
				fields = append(fields, big.AppendUint64(nil, n)[8-inBytes[field]:]...)
			}
		}
	}
	b = append(big.AppendUint16(b, which), fields...)
	b = big.AppendUint16(b, uint16(len(r.Copies)))
	for _, list := range r.Copies {
		b = big.AppendUint16(b, uint16(len(list)))
		for _, a := range list {
			b = big.AppendUint64(append(b, byte(a.Do), byte(a.Field)), a.N)
		}
	}
	return b
}

// verdict is what Check must answer of m, by the chapter's words.
func verdict(m api.Message) api.Errno {
	counts := map[string]bool{"Type": true, "Id": true}
	for _, name := range strings.Fields([]string{
		api.MsgFeatures: "Switch Ports Edge", api.MsgRule: "Do Rule", api.MsgIn: "Port Frame", api.MsgOut: "Port Frame",
		api.MsgStated: "Port Helds", api.MsgPort: "Port Up", api.MsgError: "Code", api.MsgError + 1: "",
	}[max(0, min(m.Type, api.MsgError+1))]) {
		counts[name] = true
	}
	v := reflect.ValueOf(plain(m))
	for i := range v.NumField() {
		if !counts[v.Type().Field(i).Name] && !v.Field(i).IsZero() {
			return api.ErrMessage
		}
	}
	rules := []api.Rule{m.Rule}
	for _, h := range m.Helds {
		rules = append(rules, h.Rule)
	}
	if m.Type < 0 || m.Type > 13 || m.Do < 0 || m.Do > 3 || m.Type == api.MsgStated && m.Port > 1 || !allFit(rules) {
		return api.ErrMessage
	}
	if len(words(m)) > 8192 {
		return api.ErrLong
	}
	return api.OK
}

func allFit(rules []api.Rule) bool {
	for _, r := range rules {
		if int64(r.Rank) < -1<<31 || int64(r.Rank) > 1<<31-1 {
			return false
		}
		for field, mask := range r.Match.Mask {
			if mask >= 1<<widths[field] || r.Match.Value[field]|mask != mask {
				return false
			}
		}
		for _, a := range slices.Concat(r.Copies...) {
			set, out, punt := a.Do == 0 && a.Field >= 0, a.Do == 1 && a.Field == 0, a.Do == 2 && a.Field == 0 && a.N == 0
			if !set && !out && !punt {
				return false
			}
		}
	}
	return true
}

// plain is m in new memory, its empty lists nil.
func plain(m api.Message) api.Message {
	m.Ports, m.Edge, m.Frame = plainList(m.Ports), plainList(m.Edge), plainList(m.Frame)
	m.Rule = plainRule(m.Rule)
	m.Helds = plainList(m.Helds)
	for i := range m.Helds {
		m.Helds[i].Rule = plainRule(m.Helds[i].Rule)
	}
	return m
}

func plainRule(r api.Rule) api.Rule {
	r.Copies = plainList(r.Copies)
	for i := range r.Copies {
		r.Copies[i] = plainList(r.Copies[i])
	}
	return r
}

func plainList[T any](list []T) []T {
	return append([]T(nil), list...)
}

func same(a, b api.Message) bool {
	return reflect.DeepEqual(plain(a), plain(b))
}

func unhex(text string) []byte {
	b, err := hex.DecodeString(strings.ReplaceAll(text, " ", ""))
	if err != nil {
		panic(err)
	}
	return b
}

func short(b []byte) string {
	if len(b) > 80 {
		return hex.EncodeToString(b[:80]) + ".."
	}
	return hex.EncodeToString(b)
}

// wantBytes: the message has these bytes, and they are the message.
func wantBytes(t *testing.T, m api.Message, want []byte) {
	t.Helper()
	if e := Check(m); e != api.OK {
		t.Errorf("Check(%+v) = %v, want OK", m, e)
	}
	if b, e := Encode(m); e != api.OK || !slices.Equal(b, want) {
		t.Errorf("Encode(%+v) = %s, %v, want %s", m, short(b), e, short(want))
	}
	if got, e := Decode(want); e != api.OK || !same(got, m) {
		t.Errorf("Decode(%s) = %+v, %v, want %+v", short(want), got, e, m)
	}
}

// wantNone: m is refused by Check and Encode, with nothing beside the error.
func wantNone(t *testing.T, m api.Message, want api.Errno) {
	t.Helper()
	if e := Check(m); e != want {
		t.Errorf("Check of Type %d, %s = %v, want %v", m.Type, short(words(m)), e, want)
	}
	if b, e := Encode(m); e != want || b != nil {
		t.Errorf("Encode of Type %d, %s = %s, %v, want %v", m.Type, short(words(m)), short(b), e, want)
	}
}

// wantRefused: b is refused by Decode, with nothing beside the error.
func wantRefused(t *testing.T, b []byte, want api.Errno) {
	t.Helper()
	if m, e := Decode(b); e != want || !reflect.DeepEqual(m, api.Message{}) {
		t.Errorf("Decode of %d bytes %s = %+v, %v, want %v", len(b), short(b), m, e, want)
	}
}

// wantBothNone: neither is m a message, nor are what its bytes would be.
func wantBothNone(t *testing.T, m api.Message) {
	t.Helper()
	wantNone(t, m, api.ErrMessage)
	wantRefused(t, words(m), api.ErrMessage)
}

// sized are the bytes with their size set to how many they are.
func sized(b []byte) []byte {
	b = slices.Clone(b)
	big.PutUint16(b[2:], uint16(len(b)))
	return b
}

// Random messages, and parts of them.

func anyNumber(r *rand.Rand) uint64 {
	return []uint64{0, 1, 2, uint64(r.Intn(300)), r.Uint64(), math.MaxUint64, r.Uint64() >> r.Intn(64)}[r.Intn(7)]
}

func anyMatch(r *rand.Rand) api.Match {
	var m api.Match
	for field, width := range widths {
		if r.Intn(3) == 0 {
			m.Mask[field] = []uint64{1<<width - 1, 1, 1 << (width - 1), r.Uint64() & (1<<width - 1)}[r.Intn(4)]
			m.Value[field] = []uint64{0, m.Mask[field], r.Uint64() & m.Mask[field]}[r.Intn(3)]
		}
	}
	return m
}

func anyAction(r *rand.Rand) api.Action {
	switch r.Intn(3) {
	case 0:
		return api.Action{Do: api.ActSet, Field: int8(r.Intn(128)), N: anyNumber(r)}
	case 1:
		return api.Action{Do: api.ActOut, N: anyNumber(r)}
	}
	return api.Action{Do: api.ActPunt}
}

func anyRule(r *rand.Rand) api.Rule {
	rule := api.Rule{Rank: int(int32(anyNumber(r))), Cookie: anyNumber(r), Match: anyMatch(r)}
	for range r.Intn(4) {
		var list []api.Action
		for range r.Intn(4) {
			list = append(list, anyAction(r))
		}
		rule.Copies = append(rule.Copies, list)
	}
	return rule
}

func anyPorts(r *rand.Rand) []uint16 {
	var list []uint16
	for range r.Intn(5) {
		list = append(list, uint16(anyNumber(r)))
	}
	return list
}

func anyBytes(r *rand.Rand, n int) []byte {
	b := make([]byte, n)
	r.Read(b)
	return b
}

func anyMessage(r *rand.Rand) api.Message {
	m := api.Message{Type: int8(r.Intn(14)), Id: uint32(anyNumber(r))}
	switch m.Type {
	case api.MsgFeatures:
		m.Switch, m.Ports, m.Edge = uint16(anyNumber(r)), anyPorts(r), anyPorts(r)
	case api.MsgRule:
		m.Do, m.Rule = int8(r.Intn(4)), anyRule(r)
	case api.MsgIn, api.MsgOut:
		m.Port, m.Frame = uint16(anyNumber(r)), anyBytes(r, r.Intn(20))
	case api.MsgStated:
		m.Port = uint16(r.Intn(2))
		for range r.Intn(5) {
			m.Helds = append(m.Helds, api.Held{Rule: anyRule(r), Counts: api.Counts{Packets: anyNumber(r), Bytes: anyNumber(r)}})
		}
	case api.MsgPort:
		m.Port, m.Up = uint16(anyNumber(r)), r.Intn(2) == 0
	case api.MsgError:
		m.Code = uint16(anyNumber(r))
	}
	return m
}
