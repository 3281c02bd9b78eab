package scan

import (
	"errors"
	"math"
	"slices"
	"strconv"
	"strings"
	"testing"

	"tollbridge/api"
)

func name(text string, at int) api.Word {
	return api.Word{Kind: api.WordName, Text: text, At: at}
}

func num(text string, n uint64, at int) api.Word {
	return api.Word{Kind: api.WordNumber, Text: text, N: n, At: at}
}

func sign(text string, at int) api.Word {
	return api.Word{Kind: api.WordSign, Text: text, At: at}
}

// short keeps what a failure tells of a long text readable.
func short(text string) string {
	if len(text) > 80 {
		return strconv.Quote(text[:80]) + " and " + strconv.Itoa(len(text)-80) + " bytes more"
	}
	return strconv.Quote(text)
}

// wantWords asks for those words, and the end behind them.
func wantWords(t *testing.T, text string, want ...api.Word) {
	t.Helper()
	got, err := All(text)
	if err != nil {
		t.Errorf("All(%s): %s, want no fault", short(text), short(err.Error()))
		return
	}
	want = append(slices.Clone(want), api.Word{Kind: api.WordEnd, At: len(text)})
	if !slices.Equal(got, want) {
		t.Errorf("All(%s) = %v, want %v", short(text), got, want)
	}
}

func wantFault(t *testing.T, text string, code api.Errno, at int, word string) {
	t.Helper()
	got, err := All(text)
	var f *api.Fault
	if !errors.As(err, &f) {
		t.Errorf("All(%s) = %v, %v, want a fault", short(text), got, err)
		return
	}
	if want := (api.Fault{Code: code, At: at, Word: word}); *f != want {
		t.Errorf("All(%s): %s, want %s", short(text), short(f.Error()), short(want.Error()))
	}
	if len(got) != 0 {
		t.Errorf("All(%s): %d words beside a fault", short(text), len(got))
	}
	if !errors.Is(err, code) {
		t.Errorf("All(%s): errors.Is does not find %v", short(text), code)
	}
}

// P15.1: the chapter's examples, row by row.
func TestExamples(t *testing.T) {
	wantWords(t, "filter dst = 00:00:00:00:00:0a;",
		name("filter", 0), name("dst", 7), sign("=", 11), num("00:00:00:00:00:0a", 10, 13), sign(";", 30))
	wantWords(t, "to = 10.0.0.1 # x", name("to", 0), sign("=", 3), num("10.0.0.1", 167772161, 5))
	wantWords(t, "port:=0x1F", name("port", 0), sign(":=", 4), num("0x1F", 31, 6))
	wantFault(t, "a:b", api.ErrWord, 1, ":")
	wantFault(t, "01", api.ErrWord, 0, "01")
	wantFault(t, "1.2.3", api.ErrWord, 0, "1.2.3")
	wantFault(t, "256.0.0.0", api.ErrWord, 0, "256")
	wantFault(t, "0xg", api.ErrWord, 0, "0x")
	wantFault(t, "a:b; 01; 1.2.3; 256.0.0.0; 0xg", api.ErrWord, 1, ":")
}

// P15.1: texts without a word have the end alone.
func TestNoWords(t *testing.T) {
	for _, text := range []string{
		"", " ", "\t", "\n", "\r", " \t\r\n \n", "#", "# a b c", "#\n", "##", "# a\n# b\n", "#\r\t \x00\x0b",
		"# é \xff\xc3", "# \xc3\n", "# ¯\u2028\u0085 x", strings.Repeat("#", api.MaxText), strings.Repeat("\n", api.MaxText),
	} {
		wantWords(t, text)
	}
}

// P15.1: a remark goes up to the next 0A, and nothing else ends it.
func TestRemarks(t *testing.T) {
	wantWords(t, "a#b\nc", name("a", 0), name("c", 4))
	wantWords(t, "a#b\rc\n d", name("a", 0), name("d", 7))
	wantWords(t, "a # b # c\nd", name("a", 0), name("d", 10))
	wantWords(t, "1#2\n3", num("1", 1, 0), num("3", 3, 4))
	wantWords(t, ":=#=\n=", sign(":=", 0), sign("=", 5))
	wantWords(t, "#\n#\na#", name("a", 4))
	wantWords(t, "#\xe2\x82\nb", name("b", 4))
	wantWords(t, "# \u2029 \u0085 x\nb", name("b", len("# \u2029 \u0085 x\n")))
	wantFault(t, "#\n.", api.ErrWord, 2, ".")
	wantFault(t, ":#=\n=", api.ErrWord, 0, ":")
}

// P15.1: each byte alone: a blank, a remark, a name, a number, a sign, or none.
func TestEachByte(t *testing.T) {
	for b := range 256 {
		text := string([]byte{byte(b)})
		switch {
		case strings.Contains(" \t\n\r#", text):
			wantWords(t, text)
		case strings.Contains("abcdefghijklmnopqrstuvwxyzABCDEFGHIJKLMNOPQRSTUVWXYZ_", text):
			wantWords(t, text, name(text, 0))
		case strings.Contains("0123456789", text):
			wantWords(t, text, num(text, uint64(b-'0'), 0))
		case strings.Contains("+;*=!&|(){}", text):
			wantWords(t, text, sign(text, 0))
		default:
			wantFault(t, text, api.ErrWord, 0, text)
			wantFault(t, " a "+text+" a", api.ErrWord, 3, text)
		}
	}
}

// P15.1: no letters, digits or blanks but those of ASCII; of others the first
// byte alone is told.
func TestOtherAlphabets(t *testing.T) {
	for _, r := range []rune{0x80, 0x85, 0xa0, 'é', 'ſ', 'Ω', '٣', 0x2003, 0x2028, '０', 'Ａ', 'ａ', 0xfeff, 0xfffd, 0x1d7d8, math.MaxInt32} {
		text := string(r)
		wantFault(t, text, api.ErrWord, 0, text[:1])
		wantFault(t, "abc"+text, api.ErrWord, 3, text[:1])
		wantFault(t, "12"+text, api.ErrWord, 2, text[:1])
		wantFault(t, "0x1"+text, api.ErrWord, 3, text[:1])
		wantFault(t, "0x"+text, api.ErrWord, 0, "0x")
		wantFault(t, "1."+text, api.ErrWord, 0, "1.")
		wantFault(t, "00:00:00:00:00:0a"+text, api.ErrWord, 17, text[:1])
		wantFault(t, "a:"+text, api.ErrWord, 1, ":")
	}
	wantFault(t, "a \xff\xfe", api.ErrWord, 2, "\xff")
	wantFault(t, "a\xe2\x82", api.ErrWord, 1, "\xe2")
}

// P15.1: what a name has, and where it ends.
func TestNames(t *testing.T) {
	for _, text := range []string{
		"a", "_", "__", "Z", "x0", "_1", "a_b_c", "filter", "count", "g00", "ABCxyz019_",
		"aa", "fF", "ab12", "x1f", "deadbeef", "A0b1",
	} {
		wantWords(t, text, name(text, 0))
		wantWords(t, " "+text+"+"+text, name(text, 1), sign("+", 1+len(text)), name(text, 2+len(text)))
	}
	wantFault(t, "a.b", api.ErrWord, 1, ".")
	wantFault(t, "a-b", api.ErrWord, 1, "-")
	wantFault(t, "-1", api.ErrWord, 0, "-")
}

// P15.1: a name has at most 32 bytes, and all that is too long is told.
func TestLongNames(t *testing.T) {
	for _, first := range []string{"a", "_", "Z", "g"} {
		for size := 30; size <= 32; size++ {
			text := first + strings.Repeat("9", size-1)
			wantWords(t, text, name(text, 0))
			wantWords(t, text+":="+text, name(text, 0), sign(":=", size), name(text, size+2))
		}
		for _, size := range []int{33, 34, 64, 1000, api.MaxText} {
			wantFault(t, first+strings.Repeat("b_C9", size)[:size-1], api.ErrLong, 0, first+strings.Repeat("b_C9", size)[:size-1])
		}
	}
	long := strings.Repeat("x", 33)
	wantFault(t, "id "+long+" .", api.ErrLong, 3, long)
	wantFault(t, "id "+long+".", api.ErrLong, 3, long)
	wantFault(t, ". "+long, api.ErrWord, 0, ".")
}

// P15.1: signs, the longest there is; : alone is none.
func TestSigns(t *testing.T) {
	for _, text := range []string{":=", "+", ";", "*", "=", "!", "&", "|", "(", ")", "{", "}"} {
		wantWords(t, text, sign(text, 0))
		wantWords(t, text+text, sign(text, 0), sign(text, len(text)))
		wantWords(t, "a"+text+"1", name("a", 0), sign(text, 1), num("1", 1, 1+len(text)))
		wantWords(t, "1"+text+"a", num("1", 1, 0), sign(text, 1), name("a", 1+len(text)))
	}
	wantWords(t, ":==", sign(":=", 0), sign("=", 2))
	wantWords(t, "=:=", sign("=", 0), sign(":=", 1))
	wantFault(t, ":", api.ErrWord, 0, ":")
	wantFault(t, "::=", api.ErrWord, 0, ":")
	wantFault(t, ": =", api.ErrWord, 0, ":")
	wantFault(t, ":=:", api.ErrWord, 2, ":")
	wantFault(t, "=:", api.ErrWord, 1, ":")
}

// P15.1: of several faults the one that is first from the left.
func TestFirstFault(t *testing.T) {
	faults := []struct {
		word string
		code api.Errno
	}{
		{".", api.ErrWord}, {":", api.ErrWord}, {"01", api.ErrWord}, {"0x", api.ErrWord}, {"1.", api.ErrWord},
		{strings.Repeat("n", 33), api.ErrLong}, {"18446744073709551616", api.ErrLong},
	}
	for _, a := range faults {
		for _, b := range faults {
			wantFault(t, "id "+a.word+" "+b.word, a.code, 3, a.word)
		}
	}
	wantWords(t, "id # . : 01 0x 1.", name("id", 0))
}

// P15.1: a text has at most MaxText bytes; one more goes ahead of all faults.
func TestLongTexts(t *testing.T) {
	words, err := All(strings.Repeat("(", api.MaxText))
	if err != nil || len(words) != api.MaxText+1 {
		t.Fatalf("%d words, %v", len(words), err)
	}
	for i, w := range words[:api.MaxText] {
		if w != sign("(", i) {
			t.Fatalf("word %d is %v", i, w)
		}
	}
	if end := (api.Word{Kind: api.WordEnd, At: api.MaxText}); words[api.MaxText] != end {
		t.Errorf("the end is %v", words[api.MaxText])
	}
	blanks := strings.Repeat(" ", api.MaxText-2)
	wantWords(t, blanks+"id", name("id", api.MaxText-2))
	wantFault(t, blanks+" .", api.ErrWord, api.MaxText-1, ".")
	for _, text := range []string{
		blanks + "id ", "." + blanks + "id", blanks + " ..", strings.Repeat("a", api.MaxText+1), strings.Repeat("9", api.MaxText+1),
		strings.Repeat("#", api.MaxText+1), string(make([]byte, api.MaxText+1)), strings.Repeat(" ", 3*api.MaxText),
	} {
		wantFault(t, text, api.ErrLong, 0, "")
	}
}

// R2, R3: no answer hangs on another, nor on what was written into it.
func TestAnswersAlone(t *testing.T) {
	const text = "filter to = 10.0.0.1 ; port := 2"
	first, _ := All(text)
	want := slices.Clone(first)
	for i := range first {
		first[i] = api.Word{Kind: 77, Text: "x", N: 9, At: -1}
	}
	_ = append(first, api.Word{})
	if again, err := All(text); err != nil || !slices.Equal(again, want) {
		t.Errorf("%v, %v, want %v", again, err, want)
	}
	_, err := All("a .")
	var f *api.Fault
	if !errors.As(err, &f) {
		t.Fatal(err)
	}
	*f = api.Fault{}
	wantFault(t, "a .", api.ErrWord, 2, ".")
}
