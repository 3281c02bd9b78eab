package scan

import (
	"math"
	"strconv"
	"strings"
	"testing"

	"tollbridge/api"
)

// wantNumber asks for it at the text's ends and between other words.
func wantNumber(t *testing.T, text string, n uint64) {
	t.Helper()
	wantWords(t, text, num(text, n, 0))
	wantWords(t, "="+text+";", sign("=", 0), num(text, n, 1), sign(";", 1+len(text)))
	wantWords(t, "a "+text+"#", name("a", 0), num(text, n, 2))
	wantWords(t, text+":="+text, num(text, n, 0), sign(":=", len(text)), num(text, n, len(text)+2))
	for _, behind := range []string{"g", "z", "G", "Z", "_"} {
		wantFault(t, "a "+text+behind, api.ErrWord, 2, text)
		wantFault(t, "a "+text+behind+" .", api.ErrWord, 2, text)
	}
}

// wantWrong asks for a fault that tells word at the beginning of word and rest.
func wantWrong(t *testing.T, code api.Errno, word, rest string) {
	t.Helper()
	wantFault(t, word+rest, code, 0, word)
	wantFault(t, "id+"+word+rest, code, 3, word)
	wantFault(t, "id "+word+rest+" .", code, 3, word)
}

// P15.1: decimal digits up to the end of their width, and past it.
func TestDecimal(t *testing.T) {
	for n := range uint64(1000) {
		wantNumber(t, strconv.FormatUint(n, 10), n)
	}
	for shift := range 64 {
		for _, n := range []uint64{1<<shift - 1, 1 << shift, 1<<shift + 1} {
			wantNumber(t, strconv.FormatUint(n, 10), n)
		}
	}
	wantNumber(t, "18446744073709551614", math.MaxUint64-1)
	wantNumber(t, "18446744073709551615", math.MaxUint64)
	wantNumber(t, "9999999999999999999", 9999999999999999999)
	for _, digits := range []string{
		"18446744073709551616", "18446744073709551617", "18446744073709551620", "18446744073709551700", "20000000000000000000",
		"36893488147419103232", "36893488147419103233", "99999999999999999999", "100000000000000000000", "184467440737095516150",
		"340282366920938463463374607431768211456", "1" + strings.Repeat("0", 64), strings.Repeat("9", 1000), strings.Repeat("7", 40),
	} {
		wantWrong(t, api.ErrLong, digits, "")
		wantWrong(t, api.ErrLong, digits, "a")
		wantWrong(t, api.ErrLong, digits, ":")
	}
	wantFault(t, strings.Repeat("9", api.MaxText), api.ErrLong, 0, strings.Repeat("9", api.MaxText))
}

// P15.1: a needless 0 is wrong, but a number above the width goes ahead of it.
func TestNeedlessZeros(t *testing.T) {
	for _, digits := range []string{
		"00", "01", "09", "007", "0000000000", "018446744073709551615", strings.Repeat("0", 21), strings.Repeat("0", 1000) + "5",
		strings.Repeat("0", 100) + "18446744073709551615",
	} {
		wantWrong(t, api.ErrWord, digits, "")
		wantWrong(t, api.ErrWord, digits, "a")
		wantWrong(t, api.ErrWord, digits, "x1")
		wantWrong(t, api.ErrWord, digits, ":")
	}
	for _, digits := range []string{
		"018446744073709551616", "0" + strings.Repeat("9", 20), strings.Repeat("0", 100) + "18446744073709551616",
		strings.Repeat("0", 1000) + "1" + strings.Repeat("0", 20),
	} {
		wantWrong(t, api.ErrLong, digits, "")
		wantWrong(t, api.ErrLong, digits, "_")
	}
	wantFault(t, strings.Repeat("0", api.MaxText), api.ErrWord, 0, strings.Repeat("0", api.MaxText))
	last := strings.Repeat("0", api.MaxText-20) + "18446744073709551616"
	wantFault(t, last, api.ErrLong, 0, last)
}

// P15.1: 0x with 1 to 16 digits of either size.
func TestHexadecimal(t *testing.T) {
	for size := 1; size <= 16; size++ {
		wantNumber(t, "0x"+strings.Repeat("0", size), 0)
		wantNumber(t, "0x"+strings.Repeat("f", size), math.MaxUint64>>(64-4*size))
		wantNumber(t, "0x"+strings.Repeat("F", size), math.MaxUint64>>(64-4*size))
		wantNumber(t, "0x1"+strings.Repeat("0", size-1), 1<<(4*size-4))
	}
	for i, c := range "0123456789abcdef" {
		wantNumber(t, "0x"+string(c), uint64(i))
		wantNumber(t, "0x"+strings.ToUpper(string(c))+"7", uint64(i)<<4|7)
	}
	wantNumber(t, "0x0123456789abcdef", 0x0123456789abcdef)
	wantNumber(t, "0xFEDCBA9876543210", 0xfedcba9876543210)
	for _, digits := range []string{"", strings.Repeat("0", 17), "0" + strings.Repeat("f", 16), strings.Repeat("A", 17), strings.Repeat("1", 500)} {
		for _, rest := range []string{"", "g", "_", "x", ".", ":", ";"} {
			wantWrong(t, api.ErrWord, "0x"+digits, rest)
		}
	}
	wantWrong(t, api.ErrWord, "0", "X1")
	wantWrong(t, api.ErrWord, "00", "x1")
	wantWrong(t, api.ErrWord, "1", "x1")
	wantWrong(t, api.ErrWord, "0x0", "x0")
	wantWrong(t, api.ErrWord, "0xab", "g")
	wantFault(t, "0x1.2.3.4", api.ErrWord, 3, ".")
	wantFault(t, "0xaa:bb:cc:dd:ee:ff", api.ErrWord, 4, ":")
	all := "0x" + strings.Repeat("f", api.MaxText-2)
	wantFault(t, all, api.ErrWord, 0, all)
}

// P15.1: four parts from 0 to 255, the first the highest byte.
func TestFourParts(t *testing.T) {
	for n := range uint64(256) {
		s := strconv.FormatUint(n, 10)
		wantNumber(t, s+".0.0.0", n<<24)
		wantNumber(t, "0."+s+".0.0", n<<16)
		wantNumber(t, "0.0."+s+".0", n<<8)
		wantNumber(t, "0.0.0."+s, n)
	}
	wantNumber(t, "1.2.3.4", 0x01020304)
	wantNumber(t, "10.0.0.1", 167772161)
	wantNumber(t, "255.255.255.255", math.MaxUint32)
	wantWords(t, "1.2.3.4:=1.2.3.4=", num("1.2.3.4", 0x01020304, 0), sign(":=", 7), num("1.2.3.4", 0x01020304, 9), sign("=", 16))
	wantFault(t, "1.2.3.4.5", api.ErrWord, 7, ".")
	wantFault(t, "1.2.3.4.", api.ErrWord, 7, ".")
	wantFault(t, "1.2.3.4:", api.ErrWord, 7, ":")
	wantWrong(t, api.ErrWord, "1.2.3.4", "a")
	wantWrong(t, api.ErrWord, "1.2.3.4", "x5")
}

// P15.1: the first part that is empty, above 255 or has a needless 0 is told
// with all ahead of it, wherever it stands.
func TestWrongParts(t *testing.T) {
	ahead := ""
	for part := range 4 {
		rests := []string{"", "a", "_", " ", ";", ".", ".1", ".1.1", ".1.1.1", ".x", "..", ":"}
		for _, wrong := range []string{
			"256", "257", "260", "300", "999", "1000", "65536", "4294967296", "18446744073709551615", "18446744073709551616",
			"36893488147419103232", strings.Repeat("9", 200), "00", "01", "000", "0255", "0256", strings.Repeat("0", 300),
		} {
			for _, rest := range rests {
				if part == 0 && !strings.HasPrefix(rest, ".") {
					continue // it is of four parts by the . behind it
				}
				wantWrong(t, api.ErrWord, ahead+wrong, rest)
			}
		}
		for _, rest := range rests {
			if part > 0 { // an empty one; the first is never empty
				wantWrong(t, api.ErrWord, ahead, rest)
			}
		}
		ahead += "25" + strconv.Itoa(part) + "."
	}
}

// P15.1: where a . must stand and does not, all ahead of it is told.
func TestMissingDots(t *testing.T) {
	for _, parts := range []string{"1.2", "1.2.3", "0.0", "255.255.255"} {
		for _, rest := range []string{"", " ", " .4", "a", "_", "x.4", ":", ":=", ",", ";", "#", "\n.4", "é"} {
			wantWrong(t, api.ErrWord, parts, rest)
		}
	}
	wantFault(t, "1 .2.3.4", api.ErrWord, 2, ".")
}

// P15.1: six pairs, the first the highest byte, ahead of names and of other numbers.
func TestSixPairs(t *testing.T) {
	for place := range 6 {
		for n := range uint64(256) {
			pairs := []string{"00", "00", "00", "00", "00", "00"}
			pairs[place] = strconv.FormatUint(0x100+n, 16)[1:]
			text := strings.Join(pairs, ":")
			wantNumber(t, text, n<<(40-8*place))
			wantNumber(t, strings.ToUpper(text), n<<(40-8*place))
		}
	}
	for text, n := range map[string]uint64{
		"00:00:00:00:00:00": 0, "ff:ff:ff:ff:ff:ff": 1<<48 - 1, "01:23:45:67:89:ab": 0x0123456789ab, "fE:dC:bA:98:76:54": 0xfedcba987654,
		"ab:cd:ef:AB:CD:EF": 0xabcdefabcdef, "12:34:56:78:90:12": 0x123456789012, "a0:00:00:00:00:00": 0xa00000000000,
	} {
		wantNumber(t, text, n)
		for _, behind := range []string{"0", "9", "a", "F"} {
			wantWrong(t, api.ErrWord, text, behind)
		}
		wantFault(t, text+":", api.ErrWord, 17, ":")
		wantFault(t, text+":00", api.ErrWord, 17, ":")
		wantFault(t, text+".0", api.ErrWord, 17, ".")
		wantFault(t, text+text, api.ErrWord, 0, text)
	}
}

// P15.1: what is not whole is read by its first digits, as a number or a name.
func TestPairsNotWhole(t *testing.T) {
	for _, rest := range []string{
		"", ":", ":00", ":00:00:00:00", ":00:00:00:00:", ":00:00:00:00:0", ":00:00:00:00:0g", ":0:00:00:00:00", ":g0:00:00:00:00",
		":00:00:00 00:00", ":00:00:00:00=00", "::00:00:00:00", ":00-00:00:00:00", ":00:00:00:00:0é",
	} {
		if rest != "" {
			wantFault(t, "ab"+rest, api.ErrWord, 2, ":")
			wantFault(t, "12"+rest, api.ErrWord, 2, ":")
		}
		wantWrong(t, api.ErrWord, "00", rest)
		wantWrong(t, api.ErrWord, "05", rest)
		wantWrong(t, api.ErrWord, "0", "a"+rest)
		wantWrong(t, api.ErrWord, "7", "F"+rest)
	}
	wantWords(t, "ab:=00:00:00:00:00:00", name("ab", 0), sign(":=", 2), num("00:00:00:00:00:00", 0, 4))
	wantFault(t, "1:00:00:00:00:00:00", api.ErrWord, 1, ":")
	wantFault(t, "100:00:00:00:00:00", api.ErrWord, 3, ":")
	wantFault(t, "a00:00:00:00:00:00", api.ErrWord, 3, ":")
	wantFault(t, "xab:00:00:00:00:00", api.ErrWord, 3, ":")
	wantFault(t, "_a:00:00:00:00:00", api.ErrWord, 2, ":")
	wantFault(t, "gg:00:00:00:00:00", api.ErrWord, 2, ":")
	wantFault(t, "ab:cd:ef:gh:00:00", api.ErrWord, 2, ":")
}
