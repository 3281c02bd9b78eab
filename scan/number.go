package scan

import (
	"strconv"
	"strings"

	"tollbridge/api"
)

const (
	hexMark    = "0x"
	mostHex    = 16 // digits behind the mark
	partCount  = 4
	pairsWidth = 17 // bytes of six pairs with what stands between them
)

// numberKind tells the number of its kind that begins at a place, or false if
// none of that kind begins there.
type numberKind func(at int) (found, bool)

// numberKinds stand as they are to be tried: what begins six pairs, 0x or four
// parts would be decimal digits, too.
func numberKinds(text string) []numberKind {
	return []numberKind{sixPairs(text), hexadecimal(text), fourParts(text), decimal(text)}
}

func numberAt(text string, at int, kinds []numberKind) (found, bool) {
	for _, kind := range kinds {
		f, ok := kind(at)
		if !ok {
			continue
		}
		if f.code == api.OK && f.end < len(text) && isNameByte(text[f.end]) {
			return wrong(f.end, api.ErrWord)
		}
		return f, true
	}
	return found{}, false
}

func number(end int, n uint64) (found, bool) {
	return found{kind: api.WordNumber, end: end, n: n}, true
}

func wrong(end int, code api.Errno) (found, bool) {
	return found{end: end, code: code}, true
}

func sixPairs(text string) numberKind {
	return func(at int) (found, bool) {
		if len(text)-at < pairsWidth {
			return found{}, false
		}
		var n uint64
		for i, c := range []byte(text[at : at+pairsWidth]) {
			if i%3 == 2 {
				if c != ':' {
					return found{}, false
				}
				continue
			}
			if !isHexDigit(c) {
				return found{}, false
			}
			n = n<<4 | hexValue(c)
		}
		return number(at+pairsWidth, n)
	}
}

func hexadecimal(text string) numberKind {
	return func(at int) (found, bool) {
		if !strings.HasPrefix(text[at:], hexMark) {
			return found{}, false
		}
		first := at + len(hexMark)
		end := runEnd(text, first, isHexDigit)
		if end == first || end-first > mostHex {
			return wrong(end, api.ErrWord)
		}
		var n uint64
		for i := first; i < end; i++ {
			n = n<<4 | hexValue(text[i])
		}
		return number(end, n)
	}
}

func fourParts(text string) numberKind {
	dotAt := func(at int) bool { return at < len(text) && text[at] == '.' }
	return func(at int) (found, bool) {
		if !dotAt(runEnd(text, at, isDigit)) {
			return found{}, false
		}
		var n uint64
		end := at
		for part := range partCount {
			if part > 0 {
				if !dotAt(end) {
					return wrong(end, api.ErrWord)
				}
				end++
			}
			first := end
			end = runEnd(text, first, isDigit)
			b, err := strconv.ParseUint(text[first:end], 10, 8)
			if err != nil || hasNeedlessZero(text[first:end]) { // empty or above 255 is an error, too
				return wrong(end, api.ErrWord)
			}
			n = n<<8 | b
		}
		return number(end, n)
	}
}

func decimal(text string) numberKind {
	return func(at int) (found, bool) {
		end := runEnd(text, at, isDigit)
		if end == at {
			return found{}, false
		}
		n, err := strconv.ParseUint(text[at:end], 10, 64)
		if err != nil { // of digits alone: more than 64 bits
			return wrong(end, api.ErrLong)
		}
		if hasNeedlessZero(text[at:end]) {
			return wrong(end, api.ErrWord)
		}
		return number(end, n)
	}
}

func hasNeedlessZero(digits string) bool {
	return len(digits) > 1 && digits[0] == '0'
}

func hexValue(c byte) uint64 {
	switch {
	case c >= 'a':
		return uint64(c-'a') + 10
	case c >= 'A':
		return uint64(c-'A') + 10
	}
	return uint64(c - '0')
}
