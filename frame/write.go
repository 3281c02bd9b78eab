package frame

import "tollbridge/api"

// appendNumber writes the lowest bytes of n, as many as size says.
func appendNumber(b []byte, size int, n uint64) []byte {
	for shift := 8 * (size - 1); shift >= 0; shift -= 8 {
		b = append(b, byte(n>>shift))
	}
	return b
}

func appendPacket(b []byte, p api.Packet) []byte {
	b = appendEthernet(b, p.H)
	switch p.H[api.Kind] {
	case kindARP:
		return appendARP(b, p.H, uint64(p.Body[0]))
	case kindIP:
		b = appendIP(b, p.H, len(p.Body))
	}
	return append(b, p.Body...)
}

func appendEthernet(b []byte, h api.Header) []byte {
	b = appendNumber(b, 6, h[api.Dst])
	b = appendNumber(b, 6, h[api.Src])
	if h[api.Vlan] != 0 {
		b = appendNumber(b, 2, kindTag)
		b = appendNumber(b, 2, h[api.Vlan])
	}
	return appendNumber(b, 2, h[api.Kind])
}

func appendARP(b []byte, h api.Header, op uint64) []byte {
	b = appendNumber(b, 6, arpFirst)
	b = appendNumber(b, 2, op)
	b = appendNumber(b, 6, h[api.Src])
	b = appendNumber(b, 4, h[api.From])
	b = appendNumber(b, 6, target(h, op))
	return appendNumber(b, 4, h[api.To])
}

func appendIP(b []byte, h api.Header, bodySize int) []byte {
	length := sizeAhead(h) + bodySize
	b = appendHead(b, h, length, headSum(h, length))
	return appendPorts(b, h, length-ipSize)
}

func appendHead(b []byte, h api.Header, length int, sum uint64) []byte {
	b = appendNumber(b, 2, ipFirst)
	b = appendNumber(b, 2, uint64(length))
	b = appendNumber(b, 4, 0)
	b = appendNumber(b, 1, ipHops)
	b = appendNumber(b, 1, h[api.Proto])
	b = appendNumber(b, 2, sum)
	b = appendNumber(b, 4, h[api.From])
	return appendNumber(b, 4, h[api.To])
}

func appendPorts(b []byte, h api.Header, length int) []byte {
	switch h[api.Proto] {
	case protoTCP:
		b = appendNumber(b, 2, h[api.SPort])
		b = appendNumber(b, 2, h[api.DPort])
		b = appendNumber(b, 8, 0)
		b = appendNumber(b, 2, tcpFlags)
		b = appendNumber(b, 6, 0)
	case protoUDP:
		b = appendNumber(b, 2, h[api.SPort])
		b = appendNumber(b, 2, h[api.DPort])
		b = appendNumber(b, 2, uint64(length))
		b = appendNumber(b, 2, 0)
	}
	return b
}
