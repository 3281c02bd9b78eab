package show

import (
	"strconv"
	"strings"

	"tollbridge/api"
)

const digits = "0123456789abcdef"

// number is n as a text has it for a field that it fits.
func number(field int8, n uint64) string {
	switch field {
	case api.Src, api.Dst:
		return byBytes(n, 6, ":", pair)
	case api.From, api.To:
		return byBytes(n, 4, ".", decimal)
	}
	return decimal(n)
}

// byBytes tells the lowest bytes of n, as many as count says, the highest first.
func byBytes(n uint64, count int, between string, told func(b uint64) string) string {
	parts := make([]string, count)
	for i := range parts {
		parts[i] = told(n >> (8 * (count - 1 - i)) & 0xff)
	}
	return strings.Join(parts, between)
}

func pair(b uint64) string {
	return string([]byte{digits[b>>4], digits[b&0xf]})
}

func decimal(n uint64) string {
	return strconv.FormatUint(n, 10)
}
