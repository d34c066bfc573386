package pack

import (
	"encoding/binary"
	"math"
	"slices"
	"strings"
	"testing"
)

// lengths: around no word, one, two and three, and longer ones.
func lengths() []int {
	return []int{0, 1, 2, 3, 4, 5, 6, 7, 8, 9, 10, 14, 15, 16, 17, 18, 23, 24, 25, 31, 32, 33, 63, 64, 65, 255, 256, 257, 1000}
}

// texts: of each length scattered bytes, bytes all alike, and bytes of 0 but for the first, or the last; and bytes that are no text in UTF-8.
func texts() []string {
	out := []string{
		"a", "ab", "key", "\x00\x7f\x80\xff", "\xff\x80\x7f\x00", "\u00e9\u20ac\U0001f600", "x\u00e9y\u20acz\U0001f600",
		"\xc3\x28", "\xc0\x80", "\xed\xa0\x80", "\xe2\x82", "\xf0\x9f\x98", "\xf5\xf6\xf7\xfe\xff\xfd\xfb\xfa\xf9", allBytes(),
		"1234567\x00", "12345678\x00", "1\x002\x003\x004\x00\x00", "\x00\x00\x00\x00\x00\x00\x00\x00a\x00", "abc\x00\x00\x00\x00\x00",
	}
	for _, n := range lengths() {
		out = append(out, scattered(n))
		for _, b := range []byte{0, 1, 127, 128, 255} {
			alike := strings.Repeat(string([]byte{b}), n)
			out = append(out, alike)
			if n > 0 {
				zeros := strings.Repeat("\x00", n-1)
				out = append(out, alike[:1]+zeros, zeros+alike[:1])
			}
		}
	}
	return out
}

func allBytes() string {
	var raw []byte
	for b := range 256 {
		raw = append(raw, byte(b))
	}
	return string(raw)
}

func scattered(n int) string {
	raw := make([]byte, n)
	w := uint64(0x9e3779b97f4a7c15) + uint64(n)
	for i := range raw {
		w = w*6364136223846793005 + 1442695040888963407
		raw[i] = byte(w >> 56)
	}
	return string(raw)
}

// wordsOf: the words of a text, by the library, of the text filled up with bytes of 0.
func wordsOf(s string) []uint64 {
	raw := []byte(s)
	for len(raw)%8 != 0 {
		raw = append(raw, 0)
	}
	var out []uint64
	for len(raw) > 0 {
		out = append(out, binary.LittleEndian.Uint64(raw))
		raw = raw[8:]
	}
	return out
}

// edgeNumbers: around the lengths of no, one and two words, and the least and greatest of Go's types.
func edgeNumbers() []int {
	return []int{
		math.MinInt, math.MinInt + 1, math.MinInt + 7, math.MinInt + 8, math.MinInt32, math.MinInt16, math.MinInt8,
		-65, -64, -17, -16, -9, -8, -7, -2, -1, 0, 1, 2, 7, 8, 9, 15, 16, 17, 23, 24, 25, 63, 64, 65, 127, 128, 255, 256, 257,
		math.MaxInt16, math.MaxInt32, math.MaxInt32 + 1, math.MaxUint32, math.MaxUint32 + 1, math.MaxUint32 + 9,
		math.MaxInt - 8, math.MaxInt - 7, math.MaxInt - 1, math.MaxInt,
	}
}

func wantNone(t *testing.T, l []uint64, n int) {
	t.Helper()
	if got, ok := Text(l, n); got != "" || ok {
		t.Errorf("Text(%#x, %d): %q and %v; wanted none", l, n, got, ok)
	}
}

func wantText(t *testing.T, l []uint64, n int, want string) {
	t.Helper()
	if got, ok := Text(l, n); got != want || !ok {
		t.Errorf("Text(%#x, %d): %q and %v; wanted %q", l, n, got, ok, want)
	}
}

// P4.1: Many is how many words a text of n bytes has, up to the greatest number; 0 below 0.
func TestMany(t *testing.T) {
	for _, c := range []struct{ n, want int }{
		{math.MinInt, 0}, {math.MinInt + 1, 0}, {math.MinInt + 7, 0}, {math.MinInt32, 0}, {-9, 0}, {-8, 0}, {-7, 0}, {-1, 0},
		{0, 0}, {1, 1}, {2, 1}, {7, 1}, {8, 1}, {9, 2}, {15, 2}, {16, 2}, {17, 3}, {24, 3}, {25, 4},
		{math.MaxInt32, 1 << 28}, {math.MaxInt32 + 1, 1 << 28}, {math.MaxInt32 + 2, 1<<28 + 1}, {math.MaxUint32 + 1, 1 << 29},
		{math.MaxInt - 8, 1<<60 - 1}, {math.MaxInt - 7, 1<<60 - 1}, {math.MaxInt - 6, 1 << 60}, {math.MaxInt - 1, 1 << 60}, {math.MaxInt, 1 << 60},
	} {
		if got := Many(c.n); got != c.want {
			t.Errorf("Many(%d): %d; wanted %d", c.n, got, c.want)
		}
	}
}

// P4.1: Many of each length is how many words such a text has.
func TestManyOfTexts(t *testing.T) {
	for n := range 300 {
		s := scattered(n)
		if got, want := Many(n), len(wordsOf(s)); got != want || len(Words(s)) != want {
			t.Errorf("a text of %d bytes: Many %d, Words %d; wanted %d", n, got, len(Words(s)), want)
		}
	}
}

// P4.1: words that are written out.
func TestWords(t *testing.T) {
	for _, c := range []struct {
		s    string
		want []uint64
	}{
		{"", nil}, {"\x00", []uint64{0}}, {"a", []uint64{0x61}}, {"ab", []uint64{25185}}, {"ba", []uint64{0x6162}},
		{"\xff", []uint64{255}}, {"\x80", []uint64{128}}, {"\x00\x80", []uint64{1 << 15}}, {"\x00\x00", []uint64{0}},
		{"1234567", []uint64{0x37363534333231}}, {"12345678", []uint64{0x3837363534333231}},
		{"123456789", []uint64{0x3837363534333231, 0x39}}, {"12345678\x00", []uint64{0x3837363534333231, 0}},
		{"\x00\x00\x00\x00\x00\x00\x00\x00", []uint64{0}}, {"\xff\xff\xff\xff\xff\xff\xff\xff", []uint64{math.MaxUint64}},
		{"\xff\xff\xff\xff\xff\xff\xff\xff\xff", []uint64{math.MaxUint64, 255}}, {"\x00\x00\x00\x00\x00\x00\x00\x80", []uint64{1 << 63}},
		{"0123456789abcde", []uint64{0x3736353433323130, 0x65646362613938}},
		{"0123456789abcdef", []uint64{0x3736353433323130, 0x6665646362613938}},
		{"0123456789abcdefg", []uint64{0x3736353433323130, 0x6665646362613938, 0x67}},
		{"\u00e9\u20ac", []uint64{0xac82e2a9c3}}, {"\xed\xa0\x80\xc0\xff", []uint64{0xffc080a0ed}},
	} {
		if got := Words(c.s); !slices.Equal(got, c.want) {
			t.Errorf("Words(%q): %#x; wanted %#x", c.s, got, c.want)
		}
		wantText(t, c.want, len(c.s), c.s)
	}
}

// P4.1: each eight bytes are one word, whatever bytes they are, the last one filled up with 0.
func TestWordsOfEachLength(t *testing.T) {
	for _, s := range texts() {
		if got, want := Words(s), wordsOf(s); !slices.Equal(got, want) {
			t.Errorf("Words(%q): %#x; wanted %#x", s, got, want)
		}
	}
}

// P4.1: of no words there is the empty text alone.
func TestTextOfNoWords(t *testing.T) {
	for _, l := range [][]uint64{nil, {}, make([]uint64, 0, 4), []uint64{1, 2}[:0]} {
		wantText(t, l, 0, "")
		for _, n := range edgeNumbers() {
			if n != 0 {
				wantNone(t, l, n)
			}
		}
	}
}

// P4.1: n is the length of a text of just so many words: from 8 times the words down to 7 less.
func TestTextLengths(t *testing.T) {
	for many := range 5 {
		l := make([]uint64, many)
		for n := -20; n <= 8*many+20; n++ {
			if most := 8 * many; n >= 0 && n <= most && n > most-8 {
				wantText(t, l, n, strings.Repeat("\x00", n))
			} else {
				wantNone(t, l, n)
			}
		}
		for _, n := range edgeNumbers() {
			if n < 0 || n > 8*many {
				wantNone(t, l, n)
			}
		}
	}
}

// P4.1: one word more or fewer than n asks for, whatever they are, has no text.
func TestTextOfOtherManyWords(t *testing.T) {
	for _, s := range texts() {
		l := wordsOf(s)
		n := len(s)
		wantText(t, l, n, s)
		wantNone(t, append(slices.Clone(l), 0), n)
		wantNone(t, append(slices.Clone(l), 'a'), n)
		wantNone(t, append([]uint64{0}, l...), n)
		if len(l) > 0 {
			wantNone(t, l[:len(l)-1], n)
			wantNone(t, l[1:], n)
			wantNone(t, l, 8*len(l)+1)
			wantNone(t, l, 8*(len(l)-1))
		}
		wantNone(t, l, -n-1)
	}
}

// P4.1: a byte behind the n-th one that is not 0, whichever it is, leaves no text.
func TestTextBytesBehind(t *testing.T) {
	for _, n := range lengths() {
		s := scattered(n)
		for behind := n; behind < 8*len(wordsOf(s)); behind++ {
			for _, b := range []uint64{1, 2, 64, 127, 128, 129, 254, 255} {
				l := wordsOf(s)
				l[behind/8] |= b << (8 * (behind % 8))
				wantNone(t, l, n)
			}
		}
	}
}

// P4.1: the same at the next byte and at the word's last one, and not ahead of n, as numbers written out.
func TestTextBytesBehindEdges(t *testing.T) {
	for _, c := range []struct {
		l    []uint64
		n    int
		want string
		ok   bool
	}{
		{[]uint64{0x61}, 1, "a", true}, {[]uint64{0x61}, 2, "a\x00", true}, {[]uint64{0x61}, 8, "a\x00\x00\x00\x00\x00\x00\x00", true},
		{[]uint64{0x0161}, 1, "", false}, {[]uint64{0x8061}, 1, "", false}, {[]uint64{1<<63 | 0x61}, 1, "", false},
		{[]uint64{1<<56 | 0x61}, 1, "", false}, {[]uint64{1<<56 | 0x61}, 7, "", false}, {[]uint64{1 << 63}, 7, "", false},
		{[]uint64{1 << 55}, 7, "\x00\x00\x00\x00\x00\x00\x80", true}, {[]uint64{1 << 63}, 8, "\x00\x00\x00\x00\x00\x00\x00\x80", true},
		{[]uint64{0}, 0, "", false}, {[]uint64{1}, 0, "", false}, {[]uint64{0}, 1, "\x00", true}, {[]uint64{25185}, 1, "", false},
		{[]uint64{math.MaxUint64}, 8, "\xff\xff\xff\xff\xff\xff\xff\xff", true}, {[]uint64{math.MaxUint64}, 7, "", false},
		{[]uint64{math.MaxUint64, 255}, 9, "\xff\xff\xff\xff\xff\xff\xff\xff\xff", true},
		{[]uint64{math.MaxUint64, 256}, 9, "", false}, {[]uint64{math.MaxUint64, 1 << 63}, 9, "", false},
		{[]uint64{math.MaxUint64, 1 << 63}, 15, "", false}, {[]uint64{0, 1 << 48}, 15, strings.Repeat("\x00", 14) + "\x01", true},
	} {
		if got, ok := Text(c.l, c.n); got != c.want || ok != c.ok {
			t.Errorf("Text(%#x, %d): %q and %v; wanted %q and %v", c.l, c.n, got, ok, c.want, c.ok)
		}
	}
}

// P4.1: what lies in the spare room behind a list is not read, and neither it nor the list is changed.
func TestTextSpareRoom(t *testing.T) {
	for _, s := range texts() {
		l := wordsOf(s)
		room := append(slices.Clone(l), math.MaxUint64, 7, 0)
		before := slices.Clone(room)
		for _, n := range append(edgeNumbers(), len(s)) {
			got, ok := Text(room[:len(l)], n)
			if want, there := Text(slices.Clip(slices.Clone(l)), n); got != want || ok != there {
				t.Errorf("Text(%#x, %d) with room behind: %q and %v; wanted %q and %v", l, n, got, ok, want, there)
			}
		}
		if !slices.Equal(room, before) {
			t.Errorf("the words of %q have become %#x", s, room)
		}
	}
}

// P4.1: what is told is new memory: changing the words, or what Words told, changes nothing else.
func TestNewMemory(t *testing.T) {
	for _, s := range texts() {
		first := Words(s)
		told, _ := Text(first, len(s))
		for i := range first {
			first[i] = ^first[i]
		}
		if second := Words(s); told != s || !slices.Equal(second, wordsOf(s)) {
			t.Errorf("of %q, behind a change of what was told: %q and %#x", s, told, second)
		}
	}
}

// P4.2: Text of Words, and the text's length, is the text.
func TestTextComesBack(t *testing.T) {
	for _, s := range texts() {
		wantText(t, Words(s), len(s), s)
	}
}

// P4.2: Words of what Text tells are the words; and no other length of them tells the same text.
func TestWordsComeBack(t *testing.T) {
	for _, s := range texts() {
		for _, l := range [][]uint64{wordsOf(s), append(wordsOf(s), 0), append(wordsOf(s), math.MaxUint64), append(wordsOf(s), 1<<40)} {
			for n := -1; n <= 8*len(l)+1; n++ {
				told, ok := Text(l, n)
				if !ok {
					continue
				}
				if len(told) != n || !slices.Equal(Words(told), l) {
					t.Errorf("Text(%#x, %d) is %q, whose words are %#x", l, n, told, Words(told))
				}
			}
		}
	}
}

// P4.1: of the example.
func TestExample(t *testing.T) {
	if got := Words("ab"); !slices.Equal(got, []uint64{25185}) {
		t.Errorf("Words of ab: %d", got)
	}
	wantText(t, []uint64{25185}, 2, "ab")
	wantNone(t, []uint64{25185}, 1)
}
