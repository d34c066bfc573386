package digit

import (
	"math"
	"strings"
	"testing"

	"sprocket/api"
)

type numberCase struct {
	n    int
	text string
}

// numbers: edges of the number of digits, of the sign, and of int.
func numbers() []numberCase {
	return []numberCase{
		{0, "0"}, {1, "1"}, {-1, "-1"}, {9, "9"}, {-9, "-9"}, {10, "10"}, {-10, "-10"},
		{99, "99"}, {100, "100"}, {-100, "-100"}, {1020304050, "1020304050"},
		{-9876543210, "-9876543210"},
		{99999999999999999, "99999999999999999"}, {100000000000000000, "100000000000000000"},
		{999999999999999999, "999999999999999999"}, {-999999999999999999, "-999999999999999999"},
		{1000000000000000000, "1000000000000000000"}, {-1000000000000000000, "-1000000000000000000"},
		{math.MaxInt, "9223372036854775807"}, {math.MinInt, "-9223372036854775808"},
		{math.MaxInt - 1, "9223372036854775806"}, {math.MinInt + 1, "-9223372036854775807"},
	}
}

type wordCase struct {
	w    uint64
	text string
}

// words: edges of the number of digits, and of a word.
func words() []wordCase {
	return []wordCase{
		{0, "0"}, {1, "1"}, {9, "9"}, {10, "10"}, {99, "99"}, {100, "100"}, {1020304050, "1020304050"},
		{999999999999999999, "999999999999999999"},
		{1000000000000000000, "1000000000000000000"},
		{9223372036854775807, "9223372036854775807"}, {9223372036854775808, "9223372036854775808"},
		{9999999999999999999, "9999999999999999999"}, {10000000000000000000, "10000000000000000000"},
		{18446744073709551609, "18446744073709551609"},
		{18446744073709551610, "18446744073709551610"},
		{math.MaxUint64 - 1, "18446744073709551614"}, {math.MaxUint64, "18446744073709551615"},
	}
}

func wantNumber(t *testing.T, s string, least, most, n int, err api.Errno) {
	t.Helper()
	if gotN, gotErr := Parse(s, least, most); gotN != n || gotErr != err {
		t.Errorf("Parse(%q, %d, %d): %d, %d; wanted %d, %d", s, least, most, gotN, int(gotErr), n, int(err))
	}
}

func wantWord(t *testing.T, s string, w uint64, err api.Errno) {
	t.Helper()
	if gotW, gotErr := Word(s); gotW != w || gotErr != err {
		t.Errorf("Word(%q): %d, %d; wanted %d, %d", s, gotW, int(gotErr), w, int(err))
	}
}

// following: the text of the number behind the one whose text s is, by counting on paper.
func following(s string) string {
	at := len(s) - 1
	for at >= 0 && s[at] == '9' {
		at--
	}
	noughts := strings.Repeat("0", len(s)-1-at)
	if at < 0 {
		return "1" + noughts
	}
	return s[:at] + string(rune(s[at]+1)) + noughts
}

// P1.1: Print tells the text of n.
func TestPrint(t *testing.T) {
	for _, c := range numbers() {
		if got := Print(c.n); got != c.text {
			t.Errorf("Print(%d): %q; wanted %q", c.n, got, c.text)
		}
	}
	text := "0"
	for n := range 20001 {
		if got := Print(n); got != text {
			t.Fatalf("Print(%d): %q; wanted %q", n, got, text)
		}
		if got := Print(-n); n > 0 && got != "-"+text {
			t.Fatalf("Print(%d): %q; wanted %q", -n, got, "-"+text)
		}
		text = following(text)
	}
}

// P1.1: Parse takes a number's text of at most 18 digits, and one digit more is ErrForm, even if it would fit an int.
func TestParseNumbers(t *testing.T) {
	for _, c := range numbers() {
		if len(strings.TrimPrefix(c.text, "-")) <= 18 {
			wantNumber(t, c.text, math.MinInt, math.MaxInt, c.n, api.OK)
		} else {
			wantNumber(t, c.text, math.MinInt, math.MaxInt, 0, api.ErrForm)
		}
	}
}

// P1.1: what is no number's text is ErrForm.
func TestParseForm(t *testing.T) {
	for _, s := range []string{
		"", "-", "--", "--1", "-0", "-00", "00", "01", "-01", "-07", "007", "0000000000000000001",
		"+0", "+5", "1-", "1-2", "-1-", " 1", "1 ", "- 1", "1\n", "\x001", "1\x00", "1.0", "1e3", "0x1", "1_0", "a", "-a",
		"\u0661", "\uff11", "\u22121", "\xff", "1\x80",
		"99999999999999999a", "-99999999999999999/", "9999999999999999999999",
		strings.Repeat("9", 100000), "-" + strings.Repeat("9", 100000), strings.Repeat("-", 19),
	} {
		wantNumber(t, s, math.MinInt, math.MaxInt, 0, api.ErrForm)
	}
}

// P1.1: no byte but a digit is taken at any place, and "-" at the first one alone.
func TestParseEachByte(t *testing.T) {
	for b := range 256 {
		c := string([]byte{byte(b)})
		if '0' <= b && b <= '9' {
			wantNumber(t, "5"+c+"5", math.MinInt, math.MaxInt, 505+10*(b-'0'), api.OK)
			continue
		}
		wantNumber(t, c, math.MinInt, math.MaxInt, 0, api.ErrForm)
		wantNumber(t, "5"+c, math.MinInt, math.MaxInt, 0, api.ErrForm)
		wantNumber(t, "5"+c+"5", math.MinInt, math.MaxInt, 0, api.ErrForm)
		wantNumber(t, "-5"+c, math.MinInt, math.MaxInt, 0, api.ErrForm)
		if c == "-" {
			wantNumber(t, c+"5", math.MinInt, math.MaxInt, -5, api.OK)
		} else {
			wantNumber(t, c+"5", math.MinInt, math.MaxInt, 0, api.ErrForm)
		}
	}
}

// P1.1: least and most are taken, one beyond each is ErrRange.
func TestParseRange(t *testing.T) {
	for _, c := range []struct {
		s           string
		least, most int
		n           int
		err         api.Errno
	}{
		{"5", 5, 9, 5, api.OK}, {"9", 5, 9, 9, api.OK}, {"4", 5, 9, 0, api.ErrRange}, {"10", 5, 9, 0, api.ErrRange},
		{"-9", -9, -5, -9, api.OK}, {"-5", -9, -5, -5, api.OK}, {"-10", -9, -5, 0, api.ErrRange}, {"-4", -9, -5, 0, api.ErrRange},
		{"0", 0, 0, 0, api.OK}, {"1", 0, 0, 0, api.ErrRange}, {"-1", 0, 0, 0, api.ErrRange},
		{"5", -9, -5, 0, api.ErrRange}, {"-5", 5, 9, 0, api.ErrRange},
		{"999999999999999999", -999999999999999999, 999999999999999999, 999999999999999999, api.OK},
		{"-999999999999999999", -999999999999999999, 999999999999999999, -999999999999999999, api.OK},
		{"999999999999999999", 0, 999999999999999998, 0, api.ErrRange},
		{"-999999999999999999", -999999999999999998, 0, 0, api.ErrRange},
		{"0", math.MinInt, math.MinInt, 0, api.ErrRange}, {"0", math.MaxInt, math.MaxInt, 0, api.ErrRange},
		// Bounds the wrong way round let nothing through.
		{"4", 5, 3, 0, api.ErrRange}, {"5", 5, 3, 0, api.ErrRange}, {"3", 5, 3, 0, api.ErrRange},
		{"0", math.MaxInt, math.MinInt, 0, api.ErrRange},
	} {
		wantNumber(t, c.s, c.least, c.most, c.n, c.err)
	}
}

// P1.1: ErrForm is told ahead of ErrRange.
func TestParseFormAheadOfRange(t *testing.T) {
	for _, s := range []string{"", "-", "-0", "-07", "99x", "1000000000000000000", "-1000000000000000000"} {
		wantNumber(t, s, 1, 3, 0, api.ErrForm)
		wantNumber(t, s, 3, 1, 0, api.ErrForm)
	}
}

// P1.2: Show tells the text of w.
func TestShow(t *testing.T) {
	for _, c := range words() {
		if got := Show(c.w); got != c.text {
			t.Errorf("Show(%d): %q; wanted %q", c.w, got, c.text)
		}
	}
	text := "0"
	for w := range uint64(20001) {
		if got := Show(w); got != text {
			t.Fatalf("Show(%d): %q; wanted %q", w, got, text)
		}
		text = following(text)
	}
}

// P1.2: Word takes each word's text.
func TestWordWords(t *testing.T) {
	for _, c := range words() {
		wantWord(t, c.text, c.w, api.OK)
	}
}

// P1.2: what is no text of a number from 0 on, or has more than 20 digits, is ErrForm.
func TestWordForm(t *testing.T) {
	for _, s := range []string{
		"", "-", "-0", "-1", "--1", "00", "01", "007", "00000000000000000001", "018446744073709551615",
		"+0", "+5", "1-", " 1", "1 ", "1\n", "\x001", "1\x00", "1.0", "1e3", "0x1", "1_0", "a", "ff",
		"\u0661", "\uff11", "\xff", "1\x80",
		"100000000000000000000", "184467440737095516150", "999999999999999999999", "000000000000000000000",
		"9999999999999999999a", "a9999999999999999999", "9999999999999999999/", "9999999999999999999:",
		"-18446744073709551615", "-18446744073709551616", strings.Repeat("9", 100000),
	} {
		wantWord(t, s, 0, api.ErrForm)
	}
}

// P1.2: no byte but a digit is taken at any place.
func TestWordEachByte(t *testing.T) {
	for b := range 256 {
		c := string([]byte{byte(b)})
		if '0' <= b && b <= '9' {
			wantWord(t, c, uint64(b-'0'), api.OK)
			wantWord(t, "5"+c+"5", 505+10*uint64(b-'0'), api.OK)
			continue
		}
		for _, s := range []string{c, c + "5", "5" + c, "5" + c + "5"} {
			wantWord(t, s, 0, api.ErrForm)
		}
	}
}

// P1.2: 20 digits above 2^64 - 1 are ErrRange, from 2^64 on to the greatest.
func TestWordRange(t *testing.T) {
	for _, s := range []string{
		"18446744073709551616", "18446744073709551617", "18446744073709551619", "18446744073709551620",
		"18446744073709552000", "20000000000000000000", "36893488147419103231", "36893488147419103232",
		"36893488147419103233", "90000000000000000000", "99999999999999999999",
	} {
		wantWord(t, s, 0, api.ErrRange)
	}
}

// P1.1, P1.2: of all short texts just those of numbers are taken.
func TestShortTexts(t *testing.T) {
	numberOf := map[string]int{}
	text := "0"
	for n := range 10000 {
		numberOf[text] = n
		if n > 0 {
			numberOf["-"+text] = -n
		}
		text = following(text)
	}
	level := []string{""}
	for range 5 {
		var longer []string
		for _, s := range level {
			n, known := numberOf[s]
			if known {
				wantNumber(t, s, -9999, 9999, n, api.OK)
			} else {
				wantNumber(t, s, -9999, 9999, 0, api.ErrForm)
			}
			if known && n >= 0 {
				wantWord(t, s, uint64(n), api.OK)
			} else {
				wantWord(t, s, 0, api.ErrForm)
			}
			for _, c := range "-+ 0129a" {
				longer = append(longer, s+string(c))
			}
		}
		level = longer
	}
}

// scattered: words of every length in bits, with edges of each.
func scattered() []uint64 {
	var out []uint64
	w := uint64(0x9e3779b97f4a7c15)
	for bit := range 64 {
		top := uint64(1) << bit
		for range 40 {
			w = w*6364136223846793005 + 1442695040888963407
			out = append(out, top|w>>(63-bit))
		}
		out = append(out, top, top-1, top+1)
	}
	return out
}

// P1.3: what Print and Show tell comes back.
func TestBack(t *testing.T) {
	for _, w := range scattered() {
		wantWord(t, Show(w), w, api.OK)
		n := int(w % 1000000000000000000)
		for _, m := range []int{n, -n} {
			wantNumber(t, Print(m), math.MinInt, math.MaxInt, m, api.OK)
			wantNumber(t, Print(m), m, m, m, api.OK)
		}
	}
}

// P1.3: unlike numbers have unlike texts.
func TestUnlike(t *testing.T) {
	numberOf := map[string]int{}
	wordOf := map[string]uint64{}
	for _, w := range scattered() {
		if other, met := wordOf[Show(w)]; met && other != w {
			t.Errorf("Show(%d) and Show(%d): both %q", w, other, Show(w))
		}
		wordOf[Show(w)] = w
		for _, n := range []int{int(w), -int(w)} {
			if other, met := numberOf[Print(n)]; met && other != n {
				t.Errorf("Print(%d) and Print(%d): both %q", n, other, Print(n))
			}
			numberOf[Print(n)] = n
		}
	}
}
