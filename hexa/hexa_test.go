package hexa

import (
	"encoding/hex"
	"strings"
	"testing"

	"sprocket/api"
)

const allDigits = "0123456789abcdef"

// plain: bytes, and their text written out.
func plain() []struct{ bytes, text string } {
	return []struct{ bytes, text string }{
		{"", "-"},
		{"a-", "612d"},
		{"-", "2d"},
		{"--", "2d2d"},
		{"\x00", "00"},
		{"\x00\x00", "0000"},
		{"\x0f", "0f"},
		{"\xf0", "f0"},
		{"\xff", "ff"},
		{"\x01\x23\x45\x67\x89\xab\xcd\xef", "0123456789abcdef"},
		{"\xfe\xdc\xba\x98\x76\x54\x32\x10", "fedcba9876543210"},
		{"key 1", "6b65792031"},
		{"0f", "3066"},
		{"\u00e9", "c3a9"},
		{"\u20ac", "e282ac"},
		{"\U0001f600", "f09f9880"},
		{"\ufffd", "efbfbd"},
		{"x\u00e9y", "78c3a979"},
		{"\x80", "80"},
		{"a\xffb", "61ff62"},
		{"\xc3\x28", "c328"},
		{"\xc0\x80", "c080"},
		{"\xed\xa0\x80", "eda080"},
		{"\xe2\x82", "e282"},
		{"\xf0\x9f\x98", "f09f98"},
		{"\xf5\xf6\xfe", "f5f6fe"},
	}
}

func allBytes() string {
	var raw []byte
	for b := range 256 {
		raw = append(raw, byte(b))
	}
	return string(raw)
}

func scattered(n int) string {
	raw := make([]byte, n)
	w := uint64(0x9e3779b97f4a7c15) + uint64(n)
	for i := range raw {
		w = w*6364136223846793005 + 1442695040888963407
		raw[i] = byte(w >> 56)
	}
	return string(raw)
}

// bytesOfManyKinds: the plain ones, all bytes alone and together, and scattered ones of many lengths.
func bytesOfManyKinds() []string {
	var out []string
	for _, x := range plain() {
		out = append(out, x.bytes)
	}
	for b := range 256 {
		out = append(out, string([]byte{byte(b)}), string([]byte{0, byte(b)}), string([]byte{byte(b), 255}))
	}
	out = append(out, allBytes(), strings.Repeat(allBytes(), 40))
	for n := range 70 {
		out = append(out, scattered(n))
	}
	for _, n := range []int{255, 256, 257, 1000, 4095, 4096, 4097, 1 << 20} {
		out = append(out, scattered(n), strings.Repeat("\x00", n), strings.Repeat("\xff", n))
	}
	return out
}

// textOf: the text of bytes as the library writes it.
func textOf(s string) string {
	if s == "" {
		return "-"
	}
	return hex.EncodeToString([]byte(s))
}

// short: a text as a failed test tells it.
func short(s string) string {
	if len(s) > 80 {
		return s[:80] + ".."
	}
	return s
}

func wantBytes(t *testing.T, text, want string) {
	t.Helper()
	if s, e := Parse(text); s != want || e != api.OK {
		t.Errorf("Parse(%q): %q, %d; want %q, OK", short(text), short(s), int(e), short(want))
	}
}

func wantForm(t *testing.T, text string) {
	t.Helper()
	if s, e := Parse(text); s != "" || e != api.ErrForm {
		t.Errorf("Parse(%q): %q, %d; want nothing, ErrForm", short(text), short(s), int(e))
	}
}

// P5.1: Print and Parse of bytes whose text is written out.
func TestPlain(t *testing.T) {
	for _, x := range plain() {
		if got := Print(x.bytes); got != x.text {
			t.Errorf("Print(%q): %q; want %q", x.bytes, got, x.text)
		}
		wantBytes(t, x.text, x.bytes)
	}
}

// P5.1: of each of the 256 bytes two digits, the upper four bits' first.
func TestEachByte(t *testing.T) {
	whole := ""
	for b := range 256 {
		text := allDigits[b/16:b/16+1] + allDigits[b%16:b%16+1]
		if got := Print(string([]byte{byte(b)})); got != text {
			t.Errorf("Print of byte %d: %q; want %q", b, got, text)
		}
		wantBytes(t, text, string([]byte{byte(b)}))
		whole += text
	}
	if got := Print(allBytes()); got != whole {
		t.Errorf("Print of all bytes: %q; want %q", got, whole)
	}
	wantBytes(t, whole, allBytes())
}

// P5.1: bytes of many kinds and lengths, held against the library's text.
func TestAgainstLibrary(t *testing.T) {
	for _, s := range bytesOfManyKinds() {
		text := textOf(s)
		if got := Print(s); got != text {
			t.Errorf("Print(%q): %q; want %q", short(s), short(got), short(text))
		}
		wantBytes(t, text, s)
	}
}

// P5.1: every text of no, one or two bytes is the text of some bytes if it is "-" or two digits, and only then.
func TestAllShortTexts(t *testing.T) {
	wantForm(t, "")
	for a := range 256 {
		one := string([]byte{byte(a)})
		if one == "-" {
			wantBytes(t, one, "")
		} else {
			wantForm(t, one)
		}
		for b := range 256 {
			two := string([]byte{byte(a), byte(b)})
			upper, lower := strings.IndexByte(allDigits, byte(a)), strings.IndexByte(allDigits, byte(b))
			if upper < 0 || lower < 0 {
				wantForm(t, two)
			} else {
				wantBytes(t, two, string([]byte{byte(upper*16 + lower)}))
			}
		}
	}
}

// P5.1: the text of no bytes is "-" alone, not beside another sign.
func TestNoBytes(t *testing.T) {
	if got := Print(""); got != "-" {
		t.Errorf("Print of no bytes: %q", got)
	}
	wantBytes(t, "-", "")
	for _, text := range []string{"", "--", "---", "----", "-0", "0-", "-00", "00-", "-000", "000-", "0-0", "00-00", "0--0", "-0-0", " -", "- ", "-\n", "\u2212", "\u2013", "\u00ad"} {
		wantForm(t, text)
	}
}

// P5.1: a number of digits that is odd is the text of no bytes, however many they are.
func TestOddCount(t *testing.T) {
	for _, n := range []int{1, 3, 5, 7, 9, 15, 17, 63, 65, 1001, 1<<16 - 1, 1<<16 + 1} {
		wantForm(t, strings.Repeat("0", n))
		wantForm(t, strings.Repeat("f", n))
		wantForm(t, strings.Repeat(allDigits, n/16+1)[:n])
	}
	for _, digit := range allDigits {
		wantForm(t, string(digit))
		wantForm(t, "00"+string(digit))
	}
}

// badSigns: the digits A to F, signs next to the digits, blanks, signs of more than one byte (some whose number ends like a digit's), and bytes that are no text in UTF-8.
func badSigns() []string {
	return []string{
		"A", "B", "C", "D", "E", "F", "G", "Z", "/", ":", "`", "g", "z", "@", "x", "X", "-", "+", "_", ".", ",",
		" ", "\t", "\n", "\r", "\v", "\f", "\x00", "\x01", "\x10", "\x19", "\x1f", "\x7f",
		"\u00e9", "\u00a0", "\u0130", "\u0161", "\u0660", "\u07c0", "\u20ac", "\u3000", "\u6130", "\uff10", "\uff41", "\ufeff", "\ufffd", "\U00010030", "\U00010061", "\U0001d7d8", "\U0001f600", "\U0010ffff",
		"\x80", "\xb0", "\xbf", "\xe1", "\xff", "\xc3", "\xc3\x28", "\xc0\xb0", "\xc1\xa1", "\xe2\x82", "\xe0\x80\xb0", "\xed\xa0\x80", "\xf0\x9f\x98", "\xf4\x90\x80\x80", "\xb0\xb0", "\xff\xff",
	}
}

// P5.1: a sign that is no digit, alone, ahead of digits, behind them and between them, whether the bytes are then even or odd in number.
func TestBadSigns(t *testing.T) {
	for _, bad := range badSigns() {
		if bad != "-" {
			wantForm(t, bad)
		}
		wantForm(t, bad+bad)
		for n := range 4 {
			ahead := strings.Repeat("6", n)
			for m := range 4 {
				if n+m > 0 {
					wantForm(t, ahead+bad+strings.Repeat("1", m))
					wantForm(t, ahead+bad+strings.Repeat("b", m)+bad)
				}
			}
		}
	}
}

// P5.1: a bad sign as the first one, the last and a middle one of a long text.
func TestBadSignsInLongTexts(t *testing.T) {
	for _, n := range []int{16, 100, 4096} {
		text := textOf(scattered(n))
		wantBytes(t, text, scattered(n))
		for _, bad := range badSigns() {
			for _, at := range []int{0, 1, n - 1, n, n + 1, 2*n - 2, 2*n - 1, 2 * n} {
				wantForm(t, text[:at]+bad+text[at:])
				if at+len(bad) <= len(text) {
					wantForm(t, text[:at]+bad+text[at+len(bad):])
				}
			}
		}
	}
}

// P5.1: what is ahead of digits or behind them in other notations is no part of a text of bytes.
func TestOtherNotations(t *testing.T) {
	for _, text := range []string{"0x61", "0X61", "\\x61", "x61", "61h", "#612d", "61 2d", "61:2d", "61-2d", "61_2d", " 612d", "612d ", "612d\n", "\"612d\"", "612D", "6A", "FF", "+612d", "-612d"} {
		wantForm(t, text)
	}
}

// P5.2: Parse of Print is the bytes.
func TestBackToBytes(t *testing.T) {
	for _, s := range bytesOfManyKinds() {
		wantBytes(t, Print(s), s)
	}
}

// P5.2: Print of what Parse tells is the text, for every text of no more than four signs out of these that is the text of bytes; they are as many as the digits' pairs, and "-".
func TestBackToText(t *testing.T) {
	const signs = "09afA-g/: \xff"
	const digits = 4
	found := 0
	texts := []string{""}
	for range 5 {
		var longer []string
		for _, text := range texts {
			if s, e := Parse(text); e == api.OK {
				found++
				if got := Print(s); got != text {
					t.Errorf("Print of Parse(%q): %q", text, got)
				}
			}
			for i := range len(signs) {
				longer = append(longer, text+signs[i:i+1])
			}
		}
		texts = longer
	}
	if want := 1 + digits*digits + digits*digits*digits*digits; found != want {
		t.Errorf("%d texts of bytes; want %d", found, want)
	}
}

// P5.2: no two byte strings have one text.
func TestTextsDiffer(t *testing.T) {
	seen := map[string]string{}
	for _, s := range bytesOfManyKinds() {
		text := Print(s)
		if other, ok := seen[text]; ok && other != s {
			t.Errorf("%q and %q have one text, %q", short(s), short(other), short(text))
		}
		seen[text] = s
	}
}
