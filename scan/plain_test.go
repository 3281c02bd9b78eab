package scan

import (
	"errors"
	"math/big"
	"math/rand"
	"regexp"
	"slices"
	"strconv"
	"strings"
	"testing"

	"tollbridge/api"
)

// The chapter's words as patterns, each of what stands first in a text.
var (
	blankOrRemark = regexp.MustCompile(`^(?:[ \t\n\r]|#[^\n]*)`)
	nameFirst     = regexp.MustCompile(`^[A-Za-z_][A-Za-z_0-9]*`)
	pairsFirst    = regexp.MustCompile(`^[0-9A-Fa-f]{2}(?::[0-9A-Fa-f]{2}){5}`)
	hexFirst      = regexp.MustCompile(`^0x[0-9A-Fa-f]*`)
	partsFirst    = regexp.MustCompile(`^[0-9]+\.`)
	digitsFirst   = regexp.MustCompile(`^[0-9]+`)
	signFirst     = regexp.MustCompile(`^(?::=|[+;*=!&|(){}])`)
	goesOn        = regexp.MustCompile(`^[A-Za-z_0-9]`)
)

// plainAll is a telling of the chapter's words that cuts a text from its left
// end, piece by piece. The text is not too long.
func plainAll(text string) ([]api.Word, api.Fault) {
	var words []api.Word
	left := text
	for left != "" {
		if skip := blankOrRemark.FindString(left); skip != "" {
			left = left[len(skip):]
			continue
		}
		at := len(text) - len(left)
		w, code := plainWord(left)
		if code != api.OK {
			return nil, api.Fault{Code: code, At: at, Word: w.Text}
		}
		w.At = at
		words = append(words, w)
		left = left[len(w.Text):]
	}
	return append(words, api.Word{At: len(text)}), api.Fault{}
}

// plainWord is the word that stands first, or what is told of it and a code.
func plainWord(left string) (api.Word, api.Errno) {
	if pairs := pairsFirst.FindString(left); pairs != "" {
		return plainNumber(left, pairs, strings.ReplaceAll(pairs, ":", ""), 16)
	}
	if long := nameFirst.FindString(left); len(long) > 32 {
		return api.Word{Text: long}, api.ErrLong
	} else if long != "" {
		return api.Word{Kind: api.WordName, Text: long}, api.OK
	}
	if hex := hexFirst.FindString(left); hex != "" {
		if len(hex) < 3 || len(hex) > 18 {
			return api.Word{Text: hex}, api.ErrWord
		}
		return plainNumber(left, hex, hex[2:], 16)
	}
	if partsFirst.MatchString(left) {
		return plainParts(left)
	}
	if digits := digitsFirst.FindString(left); digits != "" {
		if n, _ := new(big.Int).SetString(digits, 10); n.BitLen() > 64 {
			return api.Word{Text: digits}, api.ErrLong
		}
		if digits != "0" && digits[0] == '0' {
			return api.Word{Text: digits}, api.ErrWord
		}
		return plainNumber(left, digits, digits, 10)
	}
	if sign := signFirst.FindString(left); sign != "" {
		return api.Word{Kind: api.WordSign, Text: sign}, api.OK
	}
	return api.Word{Text: left[:1]}, api.ErrWord
}

func plainParts(left string) (api.Word, api.Errno) {
	told, hex := "", ""
	for i := range 4 {
		if i > 0 && !strings.HasPrefix(left[len(told):], ".") {
			return api.Word{Text: told}, api.ErrWord
		}
		if i > 0 {
			told += "."
		}
		part := digitsFirst.FindString(left[len(told):])
		told += part
		fits := false
		for n := range 256 { // any other has a needless 0, is too great, or is empty
			if part == strconv.Itoa(n) {
				fits = true
				hex += strconv.FormatInt(int64(256+n), 16)[1:]
			}
		}
		if !fits {
			return api.Word{Text: told}, api.ErrWord
		}
	}
	return plainNumber(left, told, hex, 16)
}

func plainNumber(left, text, digits string, base int) (api.Word, api.Errno) {
	if goesOn.MatchString(left[len(text):]) {
		return api.Word{Text: text}, api.ErrWord
	}
	n, _ := new(big.Int).SetString(digits, base)
	return api.Word{Kind: api.WordNumber, Text: text, N: n.Uint64()}, api.OK
}

// wantPlain holds All against the plain telling, and tells whether the text has
// no fault.
func wantPlain(t *testing.T, text string) bool {
	t.Helper()
	want, fault := plainAll(text)
	got, err := All(text)
	if fault.Code == api.OK {
		if err != nil || !slices.Equal(got, want) {
			t.Fatalf("All(%q) = %v, %v, want %v", text, got, err, want)
		}
		return true
	}
	var f *api.Fault
	if !errors.As(err, &f) || *f != fault || len(got) != 0 {
		t.Fatalf("All(%q) = %v, %v, want %v", text, got, err, &fault)
	}
	return false
}

// P15.1: all texts of few bytes out of those that matter.
func TestPlainShort(t *testing.T) {
	for a := range 256 {
		for b := range 256 {
			wantPlain(t, string([]byte{byte(a), byte(b)}))
		}
	}
	alphabet := []byte("0128afxg_.:=# \n+")
	var grow func(text []byte, left int)
	grow = func(text []byte, left int) {
		wantPlain(t, string(text))
		if left == 0 {
			return
		}
		for _, c := range alphabet {
			grow(append(slices.Clone(text), c), left-1)
		}
	}
	grow(nil, 4)
}

// P15.1: every text of parts 0, 25, 256, nothing and more, up to six of them.
func TestPlainParts(t *testing.T) {
	parts := []string{"", "0", "25", "255", "256", "01", "x", "1a"}
	var texts func(text string, left int)
	texts = func(text string, left int) {
		wantPlain(t, text)
		if left > 0 {
			for _, p := range parts {
				texts(text+"."+p, left-1)
			}
		}
	}
	for _, p := range parts {
		texts(p, 4)
	}
}

// pieces of texts at random: whole words, halves of words, and what is none.
func pieces() []string {
	return []string{
		"filter", "id", "drop", "if", "then", "else", "count", "port", "to", "_x", "aa", "ab", "f", "g", "n0", "E9",
		"0", "1", "7", "00", "01", "42", "255", "256", "18446744073709551615", "18446744073709551616", "99999999999999999999",
		"0x", "0x1F", "0xffffffffffffffff", "0x00000000000000000", "10.0.0.1", "1.2.3", "1.", ".", "..", "300.1.1.1", "1.02",
		"00:00:00:00:00:0a", "aB:cD:eF:01:23:45", "00:00:00:", "ab:cd", "aa:bb:cc:dd:ee:f", ":", ":=", "=", "+", ";", "*", "!", "&", "|",
		"(", ")", "{", "}", " ", "\t", "\r", "\n", "  ", "# x\n", "#", "#\r\n", "é", "\x00", "\xff", "-", strings.Repeat("n", 31), strings.Repeat("n", 32),
	}
}

// P15.1: pieces put together at random, with blanks between them or without.
func TestPlainRandom(t *testing.T) {
	r := rand.New(rand.NewSource(15))
	list := pieces()
	whole, faulty := 0, 0
	for range 150000 {
		var b strings.Builder
		blanks := r.Intn(4) > 0
		for range 1 + r.Intn(10) {
			b.WriteString(list[r.Intn(len(list))])
			if blanks && r.Intn(8) > 0 {
				b.WriteByte(" \t\n\r"[r.Intn(4)])
			}
		}
		if wantPlain(t, b.String()) {
			whole++
		} else {
			faulty++
		}
	}
	if whole < 10000 || faulty < 10000 {
		t.Errorf("%d texts with faults, %d without: too few to tell", faulty, whole)
	}
}

// P15.1: texts of words with one byte of them changed.
func TestPlainChanged(t *testing.T) {
	r := rand.New(rand.NewSource(16))
	text := "if dst=00:1a:2B:3c:4D:5e & !(from = 10.20.255.0 | vlan=0xfF0) then port:=18446744073709551615 # to\nelse { drop * } ; id + x_9"
	if !wantPlain(t, text) {
		t.Fatal("the text itself has a fault")
	}
	for at := range len(text) {
		for b := range 256 {
			wantPlain(t, text[:at]+string([]byte{byte(b)})+text[at+1:])
		}
		wantPlain(t, text[:at])
		wantPlain(t, text[at:])
		wantPlain(t, text[:at]+text[at+1:])
		to := at + r.Intn(len(text)-at)
		wantPlain(t, text[:at]+text[to:])
	}
}

// randomWord is a word, and what its Kind and number must be.
func randomWord(r *rand.Rand) api.Word {
	const letters = "abcxyzABCXYZ_"
	hex := func(n uint64, least int) string {
		s := strconv.FormatUint(n, 16)
		s = strings.Repeat("0", max(0, least-len(s))) + s
		if r.Intn(2) > 0 {
			return strings.ToUpper(s)
		}
		return s
	}
	n := r.Uint64() >> r.Intn(64)
	switch r.Intn(6) {
	case 0:
		return num(strconv.FormatUint(n, 10), n, 0)
	case 1:
		return num("0x"+hex(n, 1+r.Intn(16)), n, 0)
	case 2:
		n &= 1<<32 - 1
		return num(strconv.Itoa(int(n>>24))+"."+strconv.Itoa(int(n>>16&255))+"."+strconv.Itoa(int(n>>8&255))+"."+strconv.Itoa(int(n&255)), n, 0)
	case 3:
		n &= 1<<48 - 1
		s := hex(n, 12)
		return num(s[:2]+":"+s[2:4]+":"+s[4:6]+":"+s[6:8]+":"+s[8:10]+":"+s[10:], n, 0)
	case 4:
		signs := strings.Split(":= + ; * = ! & | ( ) { }", " ")
		return sign(signs[r.Intn(len(signs))], 0)
	}
	b := []byte{letters[r.Intn(len(letters))]}
	for range r.Intn(32) {
		b = append(b, (letters + "0123456789")[r.Intn(len(letters)+10)])
	}
	return name(string(b), 0)
}

// between is blanks and remarks at random, and nothing only where signs part the
// words anyway.
func between(r *rand.Rand, a, b api.Word) string {
	if (a.Kind == api.WordSign || b.Kind == api.WordSign) && r.Intn(2) > 0 {
		return ""
	}
	gaps := []string{" ", "\t", "\n", "\r", "#\n", "# 01 .\n", "#é\xff:\r\n", " # a # b\n\n"}
	s := ""
	for range 1 + r.Intn(3) {
		s += gaps[r.Intn(len(gaps))]
	}
	return s
}

// P15.2: the same words, whatever stands between them; they rise, and stand in
// the text where they say.
func TestBetween(t *testing.T) {
	r := rand.New(rand.NewSource(17))
	for range 2000 {
		var want []api.Word
		for range r.Intn(20) {
			want = append(want, randomWord(r))
		}
		for range 5 {
			wantLaid(t, r, want)
		}
	}
}

// wantLaid asks for these words out of a text of them, at the places where they
// are laid down.
func wantLaid(t *testing.T, r *rand.Rand, words []api.Word) {
	t.Helper()
	end := api.Word{Kind: api.WordSign}
	text, last := between(r, end, end), end
	laid := slices.Clone(words)
	for i, w := range words {
		if i > 0 {
			text += between(r, last, w)
		}
		laid[i].At = len(text)
		text += w.Text
		last = w
	}
	text += between(r, end, end)
	if r.Intn(3) == 0 {
		text += "# the end"
	}
	wantWords(t, text, laid...)
	wantRising(t, text)
}

// wantRising asks of a text without a fault that nothing is in two words, or in
// none but between them.
func wantRising(t *testing.T, text string) {
	t.Helper()
	got, err := All(text)
	if err != nil || len(got) == 0 {
		t.Fatalf("All(%q) = %v, %v", text, got, err)
	}
	end := 0
	for i, w := range got {
		if (w.Kind == api.WordEnd) != (i == len(got)-1) {
			t.Fatalf("All(%q): word %d of %d is %v", text, i, len(got), w)
		}
		if w.At < end || w.At > len(text) || !strings.HasPrefix(text[w.At:], w.Text) || (w.Text == "") != (w.Kind == api.WordEnd) {
			t.Fatalf("All(%q): %v behind %d", text, w, end)
		}
		if w.N != 0 && w.Kind != api.WordNumber {
			t.Fatalf("All(%q): %v has a number", text, w)
		}
		if gap, err := All(text[end:w.At]); err != nil || len(gap) != 1 {
			t.Fatalf("All(%q): %q stands ahead of %v", text, text[end:w.At], w)
		}
		end = w.At + len(w.Text)
	}
	if end != len(text) {
		t.Fatalf("All(%q): the end is at %d of %d", text, end, len(text))
	}
}

// P15.2: words that stand directly behind one another are the same with
// something between them.
func TestParted(t *testing.T) {
	r := rand.New(rand.NewSource(18))
	list := pieces()
	tried := 0
	for range 60000 {
		text := ""
		for range 1 + r.Intn(6) {
			text += list[r.Intn(len(list))]
		}
		words, err := All(text)
		if err != nil {
			continue
		}
		tried++
		wantRising(t, text)
		wantLaid(t, r, words[:len(words)-1])
	}
	if tried < 2000 {
		t.Errorf("only %d texts without a fault", tried)
	}
}

// FuzzAll: no text makes All panic, and it says what the plain telling says.
func FuzzAll(f *testing.F) {
	for _, s := range pieces() {
		f.Add(s)
	}
	f.Fuzz(func(t *testing.T, text string) {
		if len(text) > api.MaxText {
			wantFault(t, text, api.ErrLong, 0, "")
		} else if wantPlain(t, text) {
			wantRising(t, text)
		}
	})
}
