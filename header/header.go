// Package header is layer 1: see shared/doc/01-header.md.
package header

import (
	"strconv"

	"tollbridge/api"
)

// Numbers by which a header says what stands in it.
const (
	leastKind = 0x600 // below it the two bytes are a length, and no kind
	kindIP    = 0x800
	kindARP   = 0x806
	kindTag   = 0x8100 // a tag is told by Vlan, so a kind must not look like one

	protoTCP = 6
	protoUDP = 17
)

const digits = "0123456789abcdef"

// Both tables go by a field's number.
var (
	widths = [api.Fields]int{48, 48, 16, 12, 32, 32, 8, 16, 16, 16, 16}
	names  = [api.Fields]string{"src", "dst", "kind", "vlan", "from", "to", "proto", "sport", "dport", "port", "switch"}
)

// Width: P1.1.
func Width(field int8) int {
	if field < 0 || field >= api.Fields {
		return 0
	}
	return widths[field]
}

// Check: P1.2.
func Check(h api.Header) api.Errno {
	if !kindFits(h[api.Kind]) {
		return api.ErrField
	}
	barred := barredFields(h)
	for field, n := range h {
		if n>>widths[field] != 0 || (barred[field] && n != 0) {
			return api.ErrField
		}
	}
	return api.OK
}

// Text: P1.3.
func Text(h api.Header) string {
	if Check(h) != api.OK {
		return ""
	}
	var b []byte
	for field, n := range h {
		if n == 0 {
			continue
		}
		if len(b) > 0 {
			b = append(b, ' ')
		}
		b = append(b, names[field]...)
		b = append(b, '=')
		b = appendNumber(b, field, n)
	}
	return string(b)
}

func kindFits(kind uint64) bool {
	return kind >= leastKind && kind != kindTag
}

// barredFields tells which fields must be 0. A protocol with ports has all that
// a plain IP header has, and that all that ARP has: hence each case falls into
// the next.
func barredFields(h api.Header) [api.Fields]bool {
	barred := [api.Fields]bool{api.From: true, api.To: true, api.Proto: true, api.SPort: true, api.DPort: true}
	switch kind := h[api.Kind]; {
	case kind == kindIP && hasPorts(h[api.Proto]):
		barred[api.SPort], barred[api.DPort] = false, false
		fallthrough
	case kind == kindIP:
		barred[api.Proto] = false
		fallthrough
	case kind == kindARP:
		barred[api.From], barred[api.To] = false, false
	}
	return barred
}

func hasPorts(proto uint64) bool {
	return proto == protoTCP || proto == protoUDP
}

func appendNumber(b []byte, field int, n uint64) []byte {
	switch field {
	case api.Src, api.Dst:
		return appendMAC(b, n)
	case api.Kind:
		return appendHex(append(b, "0x"...), n, 4)
	case api.From, api.To:
		return appendIP(b, n)
	}
	return strconv.AppendUint(b, n, 10)
}

func appendMAC(b []byte, n uint64) []byte {
	for shift := 40; shift > 0; shift -= 8 {
		b = append(appendHex(b, n>>shift, 2), ':')
	}
	return appendHex(b, n, 2)
}

func appendIP(b []byte, n uint64) []byte {
	for shift := 24; shift > 0; shift -= 8 {
		b = append(strconv.AppendUint(b, n>>shift&0xff, 10), '.')
	}
	return strconv.AppendUint(b, n&0xff, 10)
}

// appendHex writes the lowest digits of n, as many as count says.
func appendHex(b []byte, n uint64, count int) []byte {
	for shift := 4 * (count - 1); shift >= 0; shift -= 4 {
		b = append(b, digits[n>>shift&0xf])
	}
	return b
}
